/-
  GraphTrees where there is no graph: the walk up to there.
-/
import Derived.Test.YtcebfloeikjjcabGreatGz2
namespace Go.Proofs.YtcebfloeikjjcabGreat.Gr
open Go.RowKit Go.Deep Go.Maps
open Go.RowKit (Below)
set_option linter.unusedVariables false

set_option maxRecDepth 1000000 in
set_option maxHeartbeats 8000000 in
theorem trees_no {a : Option Addr} {la ca : Nat} {w : World} (n : Int) (hn : n < 1 ∨ 60 < n) :
    Calls Tryz.prog 3 #[.int .i64 n, .slice a la ca] w fun e w' => e = .returned (.bool true) ∧ Below w.heap.size w w' := by
  go_enter Tryz.func3, Tryz.ntmps3
  go_wp2_with fail
  refine (z_new w).mono ?_
  rintro e w1 ⟨Z, rfl, hz0⟩
  have ha1 := z_add1 hz0
  clear hz0
  go_wp2_with fail
  refine ha1.mono ?_
  rintro e w2 ⟨rfl, hz1⟩
  have ha2 := z_add2 hz1
  clear ha1 hz1
  go_wp2_with fail
  refine ha2.mono ?_
  rintro e w3 ⟨rfl, hz2⟩
  have ha3 := z_add3 hz2
  clear ha2 hz2
  go_wp2_with fail
  refine ha3.mono ?_
  rintro e w4 ⟨rfl, hz3⟩
  have hd4 := z_drop4 hz3
  clear ha3 hz3
  go_wp2_with fail
  refine hd4.mono ?_
  rintro e w5 ⟨rfl, hz4⟩
  clear hd4
  have hj5 := z_joined4 hz4
  clear hz4
  go_wp2_with fail
  refine hj5.mono ?_
  rintro e w6 ⟨rfl, hz5⟩
  have ht6 := z_tree4 hz5
  clear hj5 hz5
  go_wp2_with fail
  refine ht6.mono ?_
  rintro e w7 ⟨ad, c, rfl, hb7⟩
  clear ht6
  go_wp2_with fail
  refine (gnew_no n hn).mono ?_
  rintro e w8 ⟨rfl, rfl⟩
  go_wp2_with fail
  go_ret
  exact ⟨rfl, hb7⟩

end Go.Proofs.YtcebfloeikjjcabGreat.Gr
