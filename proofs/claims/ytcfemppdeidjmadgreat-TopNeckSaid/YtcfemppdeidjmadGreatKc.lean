/-
  The places of all edges, the lightest first: the order that lightestFirst of package span puts them in.
-/
import Derived.Test.YtcfemppdeidjmadGreatKb
import Derived.Test.YtcfemppdeidjmadGreatSh3
namespace Go.Proofs.YtcfemppdeidjmadGreat.Sp
open Go.RowKit Go.Deep Go.Shelf Go.Sort Go.Lib
open Go.RowKit (Below)
set_option linter.unusedVariables false

set_option maxHeartbeats 400000 in
theorem compare_any (a b : Int) (w : World) : Calls Tryz.prog 59 #[.int .i64 a, .int .i64 b] w fun e w' => e = .returned (.int .i64 (Lib.compareInt a b)) ∧ w' = w := by
  unfold Lib.compareInt
  rcases Int.lt_trichotomy a b with h | h | h
  · rw [if_pos h]
    go_enter Tryz.func59, Tryz.ntmps59
    go_wp2
    all_goals (go_ret; exact ⟨rfl, rfl⟩)
  · subst h
    rw [if_neg (by omega), if_neg (by omega)]
    go_enter Tryz.func59, Tryz.ntmps59
    go_wp2
    all_goals (go_ret; exact ⟨rfl, rfl⟩)
  · have h' : ¬ a < b := by omega
    rw [if_neg h', if_pos h]
    go_enter Tryz.func59, Tryz.ntmps59
    go_wp2
    all_goals (go_ret; exact ⟨rfl, rfl⟩)

/-- The first that is no nought. -/
def orOf (a b : Int) : Int := if a = 0 then b else a

set_option maxHeartbeats 1000000 in
theorem or_any {g : Nat} (a b : Int) (w : World) (h0 : w.cell? ⟨g, 0, none⟩ = some (.int .i64 a)) (h1 : w.cell? ⟨g, 1, none⟩ = some (.int .i64 b)) :
    Calls Tryz.prog 58 #[.slice (some ⟨g, 0, none⟩) 2 2] w fun e w' => e = .returned (.int .i64 (orOf a b)) ∧ w' = w := by
  have HA : Hid (w.cell? ⟨g, 0, none⟩ = some (.int .i64 a) ∧ w.cell? ⟨g, 1, none⟩ = some (.int .i64 b)) := ⟨h0, h1⟩
  clear h0 h1
  go_enter Tryz.func58, Tryz.ntmps58
  go_wp2_with fail
  go_loopw [5, 8] (fun _ i wr => ∃ j : Nat, j ≤ 2 ∧ i = .int .i64 (j : Nat) ∧ (0 < j → a = 0) ∧ (1 < j → b = 0) ∧ wr = w) (fun _ i _ => 2 - (intOf i).toNat)
  case atStart => exact ⟨0, by omega, rfl, fun h => absurd h (by omega), fun h => absurd h (by omega), rfl⟩
  case round =>
    obtain ⟨j, hj, rfl, ha, hb, rfl⟩ := hrel
    obtain ⟨h0, h1⟩ := HA.out
    match j, hj with
    | 0, _ =>
      by_cases c : a = 0
      · have e : (a != 0) = false := by simp [c]
        clear ha hb
        go_wp2_with fail
        go_roundw
        case rel => exact ⟨1, by omega, by go_num, fun _ => c, fun h => absurd h (by omega), by first | rfl | exact trivial⟩
        case measure => simp [intOf]
      · have e : (a != 0) = true := by simp [c]
        have HE : Hid (orOf a b = a) := show _ = _ by rw [orOf, if_neg c]
        clear ha hb c
        go_wp2_with fail
        go_ret
        exact ⟨by rw [HE.out]; rfl, rfl⟩
    | 1, _ =>
      have ha' := ha (by omega)
      by_cases c : b = 0
      · have e : (b != 0) = false := by simp [c]
        clear ha hb
        go_wp2_with fail
        go_roundw
        case rel => exact ⟨2, by omega, by go_num, fun _ => ha', fun _ => c, by first | rfl | exact trivial⟩
        case measure => simp [intOf]
      · have e : (b != 0) = true := by simp [c]
        have HE : Hid (orOf a b = b) := show _ = _ by rw [orOf, if_pos ha']
        clear ha hb c ha'
        go_wp2_with fail
        go_ret
        exact ⟨by rw [HE.out]; rfl, rfl⟩
    | 2, _ =>
      have HE : Hid (orOf a b = 0) := show _ = _ by rw [orOf, if_pos (ha (by omega)), hb (by omega)]
      clear ha hb
      go_wp2_with fail
      go_ret
      exact ⟨by rw [HE.out]; rfl, rfl⟩


/-- How two places are held against each other. -/
def cmpW (wt : Nat → Nat) (x y : Nat) : Int := orOf (Lib.compareInt (wt x : Nat) (wt y : Nat)) (Lib.compareInt (x : Nat) (y : Nat))

theorem cmpW_lt (wt : Nat → Nat) (x y : Nat) : decide (cmpW wt x y < 0) = ahead wt x y := by
  rw [Bool.eq_iff_iff, ahead_iff, decide_eq_true_iff]
  unfold cmpW orOf Lib.compareInt
  repeat' split
  all_goals omega

set_option maxRecDepth 100000 in
set_option maxHeartbeats 1000000 in
theorem light1_any {a : Option Addr} {m c B : Nat} {wt : Nat → Nat} (x y : Nat) (hx : x < m) (hy : y < m) (hm : m ≤ 200) (W : World) (hB : W.cell? ⟨B, 0, none⟩ = some (.slice a m c)) (hw : ∀ i, i < m → ∃ b o, a = some ⟨b, o, none⟩ ∧ W.cell? ⟨b, o + i * 3 + 2, none⟩ = some (.int .i64 (wt i : Nat))) :
    Calls Tryz.prog 79 #[.int .i64 (x : Nat), .int .i64 (y : Nat), .pointer (some ⟨B, 0, none⟩)] W fun e w' => e = .returned (.int .i64 (cmpW wt x y)) ∧ ∃ q os', w' = grow (W.drewN q) os' := by
  obtain ⟨b, o, rfl, c1⟩ := hw x hx
  obtain ⟨b', o', e', c2⟩ := hw y hy
  simp only [Option.some.injEq, Addr.mk.injEq, and_true] at e'
  obtain ⟨rfl, rfl⟩ := e'
  clear hw
  have hc : cmpW wt x y = orOf (Lib.compareInt (wt x : Nat) (wt y : Nat)) (Lib.compareInt (x : Nat) (y : Nat)) := rfl
  rw [hc]
  clear hc
  have q := compare_any
  generalize Lib.compareInt = cf at q ⊢
  generalize wt x = wx at *
  generalize wt y = wy at *
  have hor : Calls Tryz.prog 58 #[.slice (some ⟨W.heap.size, 0, none⟩) 2 2] (W.alloc (.cells #[.int .i64 (cf wx wy), .int .i64 (cf x y)] 3)).drew fun e w' => e = .returned (.int .i64 (orOf (cf wx wy) (cf x y))) ∧ w' = (W.alloc (.cells #[.int .i64 (cf wx wy), .int .i64 (cf x y)] 3)).drew := or_any (cf wx wy) (cf x y) _ (by simp) (by simp)
  have HW : Hid ((W.alloc (.cells #[.int .i64 (cf wx wy), .int .i64 (cf x y)] 3)).drew = grow (W.drewN 1) #[.cells #[.int .i64 (cf wx wy), .int .i64 (cf x y)] 3]) := show _ = _ by
    rw [alloc_eq_grow, drew_grow]; rfl
  have i0 : (0 : Int) ≤ (x : Int) := by omega
  have i1 : (x : Int) < (m : Int) := by omega
  have i2 : (0 : Int) ≤ (y : Int) := by omega
  have i3 : (y : Int) < (m : Int) := by omega
  go_enter Tryz.func79, Tryz.ntmps79
  go_wp2_with fail
  go_region_held3 (fun V => V.cell? ⟨B, 0, none⟩ = some (.slice (some ⟨b, o, none⟩) m c) ∧ V.cell? ⟨b, o + x * 3 + 2, none⟩ = some (.int .i64 (wx : Nat)) ∧ V.cell? ⟨b, o + y * 3 + 2, none⟩ = some (.int .i64 (wy : Nat))) (first | (go_keep; done))
    (first
      | (go_at_call 58; refine hor.mono ?_; rintro e w1 ⟨rfl, rfl⟩)
      | (go_at_call 59; refine (q _ _ _).mono ?_; rintro e w1 ⟨rfl, rfl⟩))
  go_wp2_with fail
  go_ret
  exact ⟨rfl, 1, _, HW.out⟩

end Go.Proofs.YtcfemppdeidjmadGreat.Sp
