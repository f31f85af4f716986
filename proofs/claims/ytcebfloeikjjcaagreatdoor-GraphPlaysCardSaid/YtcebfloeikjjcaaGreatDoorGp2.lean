/-
  The statements' own answer: how many are of a node's part, and how many parts there are.
-/
import Derived.Test.YtcebfloeikjjcaaGreatDoorQb
namespace Go.Proofs.YtcebfloeikjjcaaGreatDoor
open Go.RowKit Go.Deep
set_option linter.unusedVariables false

variable {w w' : World} {p : Nat → Nat}

set_option maxRecDepth 100000 in
set_option maxHeartbeats 2000000 in
theorem sizeOf_any {k n cap : Nat} (hc : ∀ i, i < n → w.cell? ⟨k, i, none⟩ = some (.int .i64 (p i : Nat))) (hn : n ≤ 60) (a : Nat) (ha : a < n) (N : Nat) (hN : cnt n (fun x => decide (p x = p a)) = N) :
    Calls Tryz.prog 26 #[.slice (some ⟨k, 0, none⟩) n cap, .int .i64 (a : Nat)] w fun e w' => e = .returned (.int .i64 (N : Nat)) ∧ Below w.heap.size w w' := by
  have HC : Hid (∀ i, i < n → w.cell? ⟨k, i, none⟩ = some (.int .i64 (p i : Nat))) := hc
  have HN : Hid (cnt n (fun x => decide (p x = p a)) = N) := hN
  clear hc hN
  go_enter Tryz.func26, Tryz.ntmps26
  go_wp2_with fail
  go_loopw [5, 6] (fun c i wr => ∃ j : Nat, j ≤ n ∧ c = .int .i64 ((cnt j (fun x => decide (p x = p a)) : Nat) : Int) ∧ i = .int .i64 (j : Nat) ∧ Below w.heap.size w wr) (fun _ i _ => n - (intOf i).toNat)
  case atStart => exact ⟨0, Nat.zero_le _, rfl, rfl, Below.refl _ _⟩
  case round =>
    obtain ⟨j, hj, rfl, rfl, hb⟩ := hrel
    have hle := cnt_le (fun x => decide (p x = p a)) j
    by_cases hlt : j < n
    · have k1 := cell_keep hb (HC.out j hlt)
      have k2 := cell_keep hb (HC.out a ha)
      have HS : Hid (cnt (j + 1) (fun x => decide (p x = p a)) = cnt j (fun x => decide (p x = p a)) + if p j = p a then 1 else 0) := show _ = _ by rw [cnt_succ]; simp
      have i1 : (0 : Int) ≤ (j : Int) := by omega
      have i2 : (j : Int) < (n : Int) := by omega
      have i3 : (0 : Int) ≤ (a : Int) := by omega
      have i4 : (a : Int) < (n : Int) := by omega
      obtain ⟨C, hC⟩ : ∃ C, cnt j (fun x => decide (p x = p a)) = C := ⟨_, rfl⟩
      have HS2 : Hid (cnt (j + 1) (fun x => decide (p x = p a)) = C + if p j = p a then 1 else 0) := by rw [← hC]; exact HS.out
      rw [hC] at hle
      rw [hC]
      clear hC HS
      obtain ⟨q, hq⟩ : ∃ q, p j = q := ⟨_, rfl⟩
      obtain ⟨r, hr⟩ : ∃ r, p a = r := ⟨_, rfl⟩
      rw [hq] at k1
      rw [hr] at k2
      have HB : Hid (Below w.heap.size w wr) := hb
      by_cases hpe : q = r
      · have HE : Hid (cnt (j + 1) (fun x => decide (p x = p a)) = C + 1) := show _ = _ by rw [HS2.out, if_pos (by rw [hq, hr]; exact hpe)]
        have t1 : (q == r) = true := by simpa using hpe
        have t2 : ((q : Int) == (r : Int)) = true := by simp; omega
        clear hpe HS2 hq hr hb
        go_wp2_with fail
        go_quiet (fail)
        go_wp2_with fail
        go_roundw
        case rel => exact ⟨j + 1, by omega, by rw [HE.out]; go_num, by go_num, below_step HB.out (below_drewN rfl)⟩
        case measure => simp [intOf]; omega
      · have HE : Hid (cnt (j + 1) (fun x => decide (p x = p a)) = C) := show _ = _ by rw [HS2.out, if_neg (by rw [hq, hr]; exact hpe)]; rfl
        have t1 : (q == r) = false := by rw [beq_eq_false_iff_ne]; exact hpe
        have t2 : ((q : Int) == (r : Int)) = false := by rw [beq_eq_false_iff_ne]; omega
        clear hpe HS2 hq hr hb
        go_wp2_with fail
        go_quiet (fail)
        go_wp2_with fail
        go_roundw
        case rel => exact ⟨j + 1, by omega, by rw [HE.out], by go_num, below_step HB.out (below_drewN rfl)⟩
        case measure => simp [intOf]; omega
    · obtain rfl : j = n := by omega
      rw [HN.out]
      go_wp2_with fail
      go_ret
      exact ⟨rfl, hb⟩

set_option maxRecDepth 100000 in
set_option maxHeartbeats 2000000 in
theorem count_any {k n cap : Nat} (hc : ∀ i, i < n → w.cell? ⟨k, i, none⟩ = some (.int .i64 (p i : Nat))) (hn : n ≤ 60) (N : Nat) (hN : partsOf n p = N) :
    Calls Tryz.prog 30 #[.slice (some ⟨k, 0, none⟩) n cap] w fun e w' => e = .returned (.int .i64 (N : Nat)) ∧ Below w.heap.size w w' := by
  have HC : Hid (∀ i, i < n → w.cell? ⟨k, i, none⟩ = some (.int .i64 (p i : Nat))) := hc
  have HN : Hid (partsOf n p = N) := hN
  clear hc hN
  go_enter Tryz.func30, Tryz.ntmps30
  go_wp2_with fail
  go_loopw [3, 4] (fun c i wr => ∃ j : Nat, j ≤ n ∧ c = .int .i64 ((partsOf j p : Nat) : Int) ∧ i = .int .i64 (j : Nat) ∧ Below w.heap.size w wr) (fun _ i _ => n - (intOf i).toNat)
  case atStart => exact ⟨0, Nat.zero_le _, rfl, rfl, Below.refl _ _⟩
  case round =>
    obtain ⟨j, hj, rfl, rfl, hb⟩ := hrel
    have hle : partsOf j p ≤ j := cnt_le _ j
    by_cases hlt : j < n
    · have k1 := cell_keep hb (HC.out j hlt)
      have HS : Hid (partsOf (j + 1) p = partsOf j p + if p j = j then 1 else 0) := show _ = _ by unfold partsOf; rw [cnt_succ]; simp
      have i1 : (0 : Int) ≤ (j : Int) := by omega
      have i2 : (j : Int) < (n : Int) := by omega
      obtain ⟨C, hC⟩ : ∃ C, partsOf j p = C := ⟨_, rfl⟩
      have HS2 : Hid (partsOf (j + 1) p = C + if p j = j then 1 else 0) := by rw [← hC]; exact HS.out
      rw [hC] at hle
      rw [hC]
      clear hC HS
      obtain ⟨q, hq⟩ : ∃ q, p j = q := ⟨_, rfl⟩
      rw [hq] at k1
      have HB : Hid (Below w.heap.size w wr) := hb
      by_cases hpe : q = j
      · have HE : Hid (partsOf (j + 1) p = C + 1) := show _ = _ by rw [HS2.out, if_pos (by rw [hq]; exact hpe)]
        have t1 : (q == j) = true := by simpa using hpe
        have t2 : ((q : Int) == (j : Int)) = true := by simp; omega
        clear hpe HS2 hq hb
        go_wp2_with fail
        go_roundw
        case rel => exact ⟨j + 1, by omega, by rw [HE.out]; go_num, by go_num, HB.out⟩
        case measure => simp [intOf]; omega
      · have HE : Hid (partsOf (j + 1) p = C) := show _ = _ by rw [HS2.out, if_neg (by rw [hq]; exact hpe)]; rfl
        have t1 : (q == j) = false := by rw [beq_eq_false_iff_ne]; exact hpe
        have t2 : ((q : Int) == (j : Int)) = false := by rw [beq_eq_false_iff_ne]; omega
        clear hpe HS2 hq hb
        go_wp2_with fail
        go_roundw
        case rel => exact ⟨j + 1, by omega, by rw [HE.out], by go_num, HB.out⟩
        case measure => simp [intOf]; omega
    · obtain rfl : j = n := by omega
      rw [HN.out]
      go_wp2_with fail
      go_ret
      exact ⟨rfl, hb⟩

end Go.Proofs.YtcebfloeikjjcaaGreatDoor
