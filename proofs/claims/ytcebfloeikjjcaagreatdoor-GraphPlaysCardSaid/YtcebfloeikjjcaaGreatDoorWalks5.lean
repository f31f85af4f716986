/-
  The statements' own look whether two lists of numbers are the same: where they are, it says so.
-/
import Derived.Test.YtcebfloeikjjcaaGreatDoorWalks3
namespace Go.Proofs.YtcebfloeikjjcaaGreatDoor
open Go.RowKit Go.Deep

theorem below_drewN {w a : World} {n : Nat} (h : a = w.drewN n) : Below w.heap.size w a := by
  subst h
  induction n with
  | zero => exact Below.refl _ _
  | succ n ih => exact ih.drew

set_option maxHeartbeats 1000000 in
theorem ints_same {a a' : Option Addr} {n cap cap' : Nat} {xs : List Int} {w : World} (h : IntsAt w a n cap xs) (h' : IntsAt w a' n cap' xs) (hn : n < 1000000) :
    Calls Tryz.prog 17 #[.slice a n cap, .slice a' n cap'] w fun e w' => e = .returned (.bool true) ∧ Below w.heap.size w w' := by
  go_enter Tryz.func17, Tryz.ntmps17
  go_wp2_with fail
  go_loopw [5] (fun i wr => ∃ k : Nat, k ≤ n ∧ i = .int .i64 k ∧ Below w.heap.size w wr) (fun i _ => n - (intOf i).toNat)
  case atStart => exact ⟨0, Nat.zero_le _, rfl, Below.refl _ _⟩
  case round =>
    obtain ⟨k, hk, rfl, hb⟩ := hrel
    by_cases hlt : k < n
    · obtain ⟨b, o, rfl, hc⟩ := h.cell k hlt
      obtain ⟨b', o', rfl, hc'⟩ := h'.cell k hlt
      have q1 := cell_keep hb hc
      have q2 := cell_keep hb hc'
      have i0 : (0 : Int) ≤ (k : Int) := by omega
      have i1 : (k : Int) < (n : Int) := by omega
      go_wp2_with fail
      go_region_held3 (fun W => W.cell? ⟨b, o + k, none⟩ = some (.int .i64 (xs.getD k 0)) ∧ W.cell? ⟨b', o' + k, none⟩ = some (.int .i64 (xs.getD k 0))) (exact ⟨q1, q2⟩) (fail)
      go_wp2_with fail
      go_roundw
      case rel => exact ⟨k + 1, by omega, by go_num, hb.drew⟩
      case measure => simp [intOf]; omega
    · go_wp2_with fail
      go_ret
      exact ⟨rfl, hb⟩

theorem ints_any {a a' : Option Addr} {n n' cap cap' : Nat} {xs : List Int} {w : World} (h : IntsAt w a n cap xs) (h' : IntsAt w a' n' cap' xs) (hn : n < 1000000) :
    Calls Tryz.prog 17 #[.slice a n cap, .slice a' n' cap'] w fun e w' => e = .returned (.bool true) ∧ Below w.heap.size w w' := by
  obtain rfl : n = n' := h.len.symm.trans h'.len
  exact ints_same h h' hn

end Go.Proofs.YtcebfloeikjjcaaGreatDoor
