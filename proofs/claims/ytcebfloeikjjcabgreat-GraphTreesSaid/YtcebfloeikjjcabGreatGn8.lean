/-
  GraphTrees: the walk of the statement.
-/
import Derived.Test.YtcebfloeikjjcabGreatGn6
import Derived.Test.YtcebfloeikjjcabGreatGn7
namespace Go.Proofs.YtcebfloeikjjcabGreat.Gr
open Go.RowKit Go.Deep Go.Maps
open Go.RowKit (Below)
set_option linter.unusedVariables false

set_option maxRecDepth 1000000 in
set_option maxHeartbeats 8000000 in
theorem trees_some {a : Option Addr} {la ca : Nat} {w : World} (hs : Script4 w a la) (n : Nat) (h1 : 1 ≤ n) (h60 : n ≤ 60) :
    Calls Tryz.prog 3 #[.int .i64 (n : Nat), .slice a la ca] w fun e w' => e = .returned (.bool true) ∧ Below w.heap.size w w' := by
  have HS : Hid (Script4 w a la) := hs
  clear hs
  go_enter Tryz.func3, Tryz.ntmps3
  go_wp2_with fail
  refine (z_new w).mono ?_
  rintro e w1 ⟨Z, rfl, hz0⟩
  have ha1 := z_add1 hz0
  clear hz0
  go_wp2_with fail
  refine ha1.mono ?_
  rintro e w2 ⟨rfl, hz1⟩
  have ha2 := z_add2 hz1
  clear ha1 hz1
  go_wp2_with fail
  refine ha2.mono ?_
  rintro e w3 ⟨rfl, hz2⟩
  have ha3 := z_add3 hz2
  clear ha2 hz2
  go_wp2_with fail
  refine ha3.mono ?_
  rintro e w4 ⟨rfl, hz3⟩
  have hd4 := z_drop4 hz3
  clear ha3 hz3
  go_wp2_with fail
  refine hd4.mono ?_
  rintro e w5 ⟨rfl, hz4⟩
  clear hd4
  have hj5 := z_joined4 hz4
  clear hz4
  go_wp2_with fail
  refine hj5.mono ?_
  rintro e w6 ⟨rfl, hz5⟩
  have ht6 := z_tree4 hz5
  clear hj5 hz5
  go_wp2_with fail
  refine ht6.mono ?_
  rintro e w7 ⟨ad, c, rfl, hb7⟩
  clear ht6
  go_wp2_with fail
  refine (gnew_any (w := w7) n h1 h60).mono ?_
  rintro e w8 ⟨G, rfl, hb8, h8, hn8, hf8⟩
  subst hn8
  have hgw : GW w G [] (fun _ => 0) (fun _ => false) w8 := ⟨h8, below_step hb7 hb8, fun c hc => Nat.le_trans hb7.size (hf8 c hc)⟩
  have HT : Hid (TS w G w8.heap.size none none 0 [] (fun _ => 0) (fun _ => false) w8 ∧ ∀ c, GFoot G c → c < w8.heap.size) := ⟨⟨hgw, ⟨fun i hi => absurd hi (Nat.not_lt_zero _)⟩, rfl, lvAt_nil _ _ _, fun c e => (by cases e), fun c e => (by cases e), Nat.le_refl _⟩, fun c hc => h8.mem.foot_lt hc⟩
  clear hb7 hb8 h8 hf8 hgw h1 h60
  go_wp2_with fail
  refine tg_loop (w0 := w) (G := G) (hb0 := w8.heap.size) (aW := none) (aV := none) (NW := 0) (cW := 0) (cV := 0) (AE := []) (lv := fun _ => 0) (tr := fun _ => false) HS.out HT.out.2 ⟨HT.out.1, Nat.le_refl _⟩ _ ?_ rfl
  rintro A w9 ⟨U, aW, aV, NW, cW, cV, AE, lv, tr, _, ⟨hR, _⟩, rfl⟩
  have HR : Hid (Below w.heap.size w w9) := hR.gw.below
  clear hR HT HS
  go_wp2_with fail
  go_ret
  exact ⟨rfl, HR.out⟩

theorem trees_any {a : Option Addr} {la ca : Nat} {w : World} (hs : Script4 w a la) (n : Int) :
    Calls Tryz.prog 3 #[.int .i64 n, .slice a la ca] w fun e w' => e = .returned (.bool true) ∧ Below w.heap.size w w' := by
  by_cases h : n < 1 ∨ 60 < n
  · exact trees_no n h
  · obtain ⟨m, rfl⟩ := Int.eq_ofNat_of_zero_le (show 0 ≤ n by omega)
    exact trees_some hs m (by omega) (by omega)

end Go.Proofs.YtcebfloeikjjcabGreat.Gr
