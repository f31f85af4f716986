/-
  Check of package bridge: right, rises, the first edge that is wrong.
-/
import Derived.Test.YtgmadfiibaeleacDoorBg
namespace Go.Proofs.YtgmadfiibaeleacDoor.Br
open Go.RowKit Go.Deep
open Go.RowKit (Below)
set_option linter.unusedVariables false

variable {w w' : World} {f : Nat → Int × Int}

theorem below_box (w : World) (o : Obj) : Below w.heap.size w (w.alloc o) := (Below.refl _ _).alloc (Nat.le_refl _) _

/-- How two numbers are held against each other. -/
def cmpI (a b : Int) : Int := if a < b then -1 else if b < a then 1 else 0

set_option maxHeartbeats 400000 in
theorem compare_any (a b : Int) (w : World) : Calls Tryd.prog 30 #[.int .i64 a, .int .i64 b] w fun e w' => e = .returned (.int .i64 (cmpI a b)) ∧ w' = w := by
  unfold cmpI
  rcases Int.lt_trichotomy a b with h | h | h
  · rw [if_pos h]
    go_enter Tryd.func30, Tryd.ntmps30
    go_wp2
    all_goals (go_ret; exact ⟨rfl, rfl⟩)
  · subst h
    rw [if_neg (by omega), if_neg (by omega)]
    go_enter Tryd.func30, Tryd.ntmps30
    go_wp2
    all_goals (go_ret; exact ⟨rfl, rfl⟩)
  · have h' : ¬ a < b := by omega
    rw [if_neg h', if_pos h]
    go_enter Tryd.func30, Tryd.ntmps30
    go_wp2
    all_goals (go_ret; exact ⟨rfl, rfl⟩)

/-- The first that is no nought. -/
def orOf (a b : Int) : Int := if a = 0 then b else a

set_option maxHeartbeats 1000000 in
theorem or_any {g : Nat} (a b : Int) (w : World) (h0 : w.cell? ⟨g, 0, none⟩ = some (.int .i64 a)) (h1 : w.cell? ⟨g, 1, none⟩ = some (.int .i64 b)) :
    Calls Tryd.prog 29 #[.slice (some ⟨g, 0, none⟩) 2 2] w fun e w' => e = .returned (.int .i64 (orOf a b)) ∧ w' = w := by
  have HA : Hid (w.cell? ⟨g, 0, none⟩ = some (.int .i64 a) ∧ w.cell? ⟨g, 1, none⟩ = some (.int .i64 b)) := ⟨h0, h1⟩
  clear h0 h1
  go_enter Tryd.func29, Tryd.ntmps29
  go_wp2_with fail
  go_loopw [5, 8] (fun _ i wr => ∃ j : Nat, j ≤ 2 ∧ i = .int .i64 (j : Nat) ∧ (0 < j → a = 0) ∧ (1 < j → b = 0) ∧ wr = w) (fun _ i _ => 2 - (intOf i).toNat)
  case atStart => exact ⟨0, by omega, rfl, fun h => absurd h (by omega), fun h => absurd h (by omega), rfl⟩
  case round =>
    obtain ⟨j, hj, rfl, ha, hb, rfl⟩ := hrel
    obtain ⟨h0, h1⟩ := HA.out
    match j, hj with
    | 0, _ =>
      by_cases c : a = 0
      · have e : (a != 0) = false := by simp [c]
        clear ha hb
        go_wp2_with fail
        go_roundw
        case rel => exact ⟨1, by omega, by go_num, fun _ => c, fun h => absurd h (by omega), by first | rfl | exact trivial⟩
        case measure => simp [intOf]
      · have e : (a != 0) = true := by simp [c]
        have HE : Hid (orOf a b = a) := show _ = _ by rw [orOf, if_neg c]
        clear ha hb c
        go_wp2_with fail
        go_ret
        exact ⟨by rw [HE.out]; rfl, rfl⟩
    | 1, _ =>
      have ha' := ha (by omega)
      by_cases c : b = 0
      · have e : (b != 0) = false := by simp [c]
        clear ha hb
        go_wp2_with fail
        go_roundw
        case rel => exact ⟨2, by omega, by go_num, fun _ => ha', fun _ => c, by first | rfl | exact trivial⟩
        case measure => simp [intOf]
      · have e : (b != 0) = true := by simp [c]
        have HE : Hid (orOf a b = b) := show _ = _ by rw [orOf, if_pos ha']
        clear ha hb c ha'
        go_wp2_with fail
        go_ret
        exact ⟨by rw [HE.out]; rfl, rfl⟩
    | 2, _ =>
      have HE : Hid (orOf a b = 0) := show _ = _ by rw [orOf, if_pos (ha (by omega)), hb (by omega)]
      clear ha hb
      go_wp2_with fail
      go_ret
      exact ⟨by rw [HE.out]; rfl, rfl⟩

/-- How two edges are held against each other. -/
def cmpE (x1 x2 y1 y2 : Int) : Int := orOf (cmpI x1 y1) (cmpI x2 y2)

theorem cmpE_lt (x1 x2 y1 y2 : Int) : cmpE x1 x2 y1 y2 < 0 ↔ x1 < y1 ∨ x1 = y1 ∧ x2 < y2 := by
  unfold cmpE orOf cmpI
  repeat' split
  all_goals omega

set_option maxRecDepth 100000 in
set_option maxHeartbeats 1000000 in
theorem rises_any (x1 x2 y1 y2 : Int) (W : World) (q : Bool) (hq : q = true ↔ (x1 < y1 ∨ x1 = y1 ∧ x2 < y2)) :
    Calls Tryd.prog 22 #[.agg #[.int .i64 x1, .int .i64 x2], .agg #[.int .i64 y1, .int .i64 y2]] W fun e w' => e = .returned (.bool q) ∧ Below W.heap.size W w' := by
  have hc : decide (cmpE x1 x2 y1 y2 < 0) = q := by rw [Bool.eq_iff_iff, decide_eq_true_iff, cmpE_lt, hq]
  have hd : cmpE x1 x2 y1 y2 = orOf (cmpI x1 y1) (cmpI x2 y2) := rfl
  rw [hd] at hc
  clear hd hq
  have q := compare_any
  generalize cmpI = cf at q hc
  go_enter Tryd.func22, Tryd.ntmps22
  go_wp2_with fail
  generalize hW2 : (W.alloc (.cells #[.int .i64 x1, .int .i64 x2] 47)).alloc (.cells #[.int .i64 y1, .int .i64 y2] 47) = W2
  have hb2 : Below W.heap.size W W2 := by rw [← hW2]; exact ((Below.refl _ _).alloc (Nat.le_refl _) _).alloc (by simp) _
  have c1 : W2.cell? ⟨W.heap.size, 0, none⟩ = some (.int .i64 x1) := by rw [← hW2]; simp
  have c2 : W2.cell? ⟨W.heap.size, 1, none⟩ = some (.int .i64 x2) := by rw [← hW2]; simp
  have c3 : W2.cell? ⟨W.heap.size + 1, 0, none⟩ = some (.int .i64 y1) := by rw [← hW2]; simp
  have c4 : W2.cell? ⟨W.heap.size + 1, 1, none⟩ = some (.int .i64 y2) := by rw [← hW2]; simp
  have HB2 : Hid (Below W.heap.size W W2) := hb2
  clear hW2 hb2
  generalize W.heap.size + 1 = B2 at c3 c4 ⊢
  generalize W.heap.size = B1 at c1 c2 ⊢
  have hor : Calls Tryd.prog 29 #[.slice (some ⟨W2.heap.size, 0, none⟩) 2 2] (W2.alloc (.cells #[.int .i64 (cf x1 y1), .int .i64 (cf x2 y2)] 3)).drew fun e w' => e = .returned (.int .i64 (orOf (cf x1 y1) (cf x2 y2))) ∧ w' = (W2.alloc (.cells #[.int .i64 (cf x1 y1), .int .i64 (cf x2 y2)] 3)).drew := or_any (cf x1 y1) (cf x2 y2) _ (by simp) (by simp)
  go_region_held3 (fun V => V.cell? ⟨B1, 0, none⟩ = some (.int .i64 x1) ∧ V.cell? ⟨B1, 1, none⟩ = some (.int .i64 x2) ∧ V.cell? ⟨B2, 0, none⟩ = some (.int .i64 y1) ∧ V.cell? ⟨B2, 1, none⟩ = some (.int .i64 y2)) (first | (go_keep; done))
    (first
      | (go_at_call 29; refine hor.mono ?_; rintro e w1 ⟨rfl, rfl⟩)
      | (go_at_call 30; refine (q _ _ _).mono ?_; rintro e w1 ⟨rfl, rfl⟩))
  go_wp2_with fail
  go_ret
  exact ⟨by rw [← hc]; rfl, below_step HB2.out (below_box _ _).drew⟩

set_option maxRecDepth 100000 in
set_option maxHeartbeats 1000000 in
theorem right_any (n a b : Int) (w : World) (q : Bool) (hq : q = true ↔ (0 ≤ a ∧ a < b ∧ b < n)) :
    Calls Tryd.prog 21 #[.int .i64 n, .agg #[.int .i64 a, .int .i64 b]] w fun e w' => e = .returned (.bool q) ∧ Below w.heap.size w w' := by
  by_cases h1 : 0 ≤ a
  · by_cases h2 : a < b
    · by_cases h3 : b < n
      · obtain rfl := hq.2 ⟨h1, h2, h3⟩
        clear hq
        go_enter Tryd.func21, Tryd.ntmps21
        go_wp2_with fail
        go_ret
        exact ⟨rfl, below_box _ _⟩
      · obtain rfl : q = false := by rw [Bool.eq_false_iff]; exact fun h => h3 (hq.1 h).2.2
        clear hq
        go_enter Tryd.func21, Tryd.ntmps21
        go_wp2_with fail
        go_ret
        exact ⟨rfl, below_box _ _⟩
    · obtain rfl : q = false := by rw [Bool.eq_false_iff]; exact fun h => h2 (hq.1 h).2.1
      clear hq
      go_enter Tryd.func21, Tryd.ntmps21
      go_wp2_with fail
      go_ret
      exact ⟨rfl, below_box _ _⟩
  · obtain rfl : q = false := by rw [Bool.eq_false_iff]; exact fun h => h1 (hq.1 h).1
    clear hq
    go_enter Tryd.func21, Tryd.ntmps21
    go_wp2_with fail
    go_ret
    exact ⟨rfl, below_box _ _⟩

/-- An error as it is told. -/
def errV (e : Int) : Value := if e = 0 then .nilIface else .iface 39 (.int .i64 e)

set_option maxRecDepth 100000 in
set_option maxHeartbeats 1000000 in
theorem check_any {a : Option Addr} {m c : Nat} (h : EgAt w a m f) (n : Int) :
    Calls Tryd.prog 14 #[.int .i64 n, .slice a m c] w fun e w' => ∃ (k : Nat) (x : Int), e = .returned (.tuple #[.int .i64 (k : Int), errV x]) ∧ EFault n m f k x ∧ Below w.heap.size w w' := by
  have HH : Hid (EgAt w a m f) := h
  clear h
  by_cases h1 : n < 1
  · go_enter Tryd.func14, Tryd.ntmps14
    go_wp2_with fail
    go_ret2
    exact ⟨0, 1, rfl, Or.inl ⟨Or.inl h1, rfl, rfl⟩, Below.refl _ _⟩
  by_cases h2 : 60 < n
  · go_enter Tryd.func14, Tryd.ntmps14
    go_wp2_with fail
    go_ret2
    exact ⟨0, 1, rfl, Or.inl ⟨Or.inr h2, rfl, rfl⟩, Below.refl _ _⟩
  by_cases h3 : 200 < (m : Int)
  · go_enter Tryd.func14, Tryd.ntmps14
    go_wp2_with fail
    go_ret2
    exact ⟨0, 3, rfl, Or.inr (Or.inl ⟨by omega, by omega, rfl, rfl⟩), Below.refl _ _⟩
  go_enter Tryd.func14, Tryd.ntmps14
  go_wp2_with fail
  go_loopw [6, 7, 21] (fun _ _ i wr => ∃ j : Nat, j ≤ m ∧ i = .int .i64 (j : Nat) ∧ Below w.heap.size w wr ∧ ∀ i, i < j → May n.toNat f i) (fun _ _ i _ => m - (intOf i).toNat)
  case atStart => exact ⟨0, Nat.zero_le _, rfl, Below.refl _ _, fun i hi => absurd hi (Nat.not_lt_zero _)⟩
  case round =>
    obtain ⟨j, hj, rfl, hb, hall⟩ := hrel
    have HA : Hid (∀ i, i < j → May n.toNat f i) := hall
    have HB : Hid (Below w.heap.size w wr) := hb
    have HN : Hid ((1 ≤ n ∧ n ≤ 60) ∧ m ≤ 200 ∧ ((n.toNat : Nat) : Int) = n) := ⟨by omega, by omega, by omega⟩
    clear hall
    by_cases hlt : j < m
    · obtain ⟨b, o, rfl, c1, c2⟩ := HH.out.below hb j hlt
      have i0 : (0 : Int) ≤ (j : Int) := by omega
      have i1 : (j : Int) < (m : Int) := by omega
      obtain ⟨q1, hq1⟩ : ∃ q : Bool, q = true ↔ Sane n.toNat f j := ⟨@decide (Sane n.toNat f j) (Classical.propDecidable _), by simp⟩
      have hr := fun W => right_any n (f j).1 (f j).2 W q1 (by rw [hq1]; unfold Sane; rw [HN.out.2.2])
      have HQ1 : Hid (q1 = true ↔ Sane n.toNat f j) := hq1
      obtain ⟨q2, hq2⟩ : ∃ q : Bool, q = true ↔ ((f (j - 1)).1 < (f j).1 ∨ (f (j - 1)).1 = (f j).1 ∧ (f (j - 1)).2 < (f j).2) := ⟨decide ((f (j - 1)).1 < (f j).1 ∨ (f (j - 1)).1 = (f j).1 ∧ (f (j - 1)).2 < (f j).2), by simp⟩
      have hs := fun W => rises_any (f (j - 1)).1 (f (j - 1)).2 (f j).1 (f j).2 W q2 hq2
      have HQ2 : Hid (q2 = true ↔ ((f (j - 1)).1 < (f j).1 ∨ (f (j - 1)).1 = (f j).1 ∧ (f (j - 1)).2 < (f j).2)) := hq2
      clear hq1 hq2
      cases q1 with
      | false =>
        have HF : Hid (EFault n m f j 1) := Or.inr (Or.inr (Or.inl ⟨HN.out.1, HN.out.2.1, hlt, HA.out, Or.inl ⟨fun q => absurd (HQ1.out.2 q) (by decide), rfl⟩⟩))
        generalize (f j).1 = x1 at *
        generalize (f j).2 = x2 at *
        clear hb hs
        go_wp2_with fail
        refine (hr _).mono ?_
        rintro e w1 ⟨rfl, hb1⟩
        go_wp2_with fail
        go_ret2
        refine ⟨j, 1, rfl, HF.out, ?_⟩
        have hs := HB.out.size
        have hs1 := hb1.size
        exact (HB.out.alloc hs _).trans (hb1.mono (by simp; omega))
      | true =>
        have HS : Hid (Sane n.toNat f j) := HQ1.out.1 rfl
        rcases Nat.eq_zero_or_pos j with h0 | h0
        · have HM : Hid (∀ i, i < j + 1 → May n.toNat f i) := fun i hi => by
            obtain rfl : i = j := by omega
            exact ⟨HS.out, fun q => absurd q (by omega)⟩
          have hz : ¬ (0 : Int) < (j : Int) := by omega
          have hz' : decide ((0 : Int) < (j : Int)) = false := by simp [h0]
          have hz2 : ¬ 0 < j := by omega
          have hz3 : decide (0 < j) = false := by simp [h0]
          have HJ : Hid (j = 0) := h0
          clear hs HQ2 h0
          generalize (f j).1 = x1 at *
          generalize (f j).2 = x2 at *
          clear hb
          go_wp2_with fail
          refine (hr _).mono ?_
          rintro e w1 ⟨rfl, hb1⟩
          have HB1 : Hid (Below w.heap.size w w1) := below_step HB.out (below_step (below_box _ _) hb1)
          clear hb1
          go_wp2_with fail
          go_quiet (fail)
          go_wp2_with fail
          go_roundw
          case rel => exact ⟨j + 1, by omega, by go_num, below_step HB1.out (below_drewN rfl), HM.out⟩
          case measure => simp [intOf]; omega
        · obtain ⟨i, hi⟩ : ∃ i, j - 1 = i := ⟨_, rfl⟩
          rw [hi] at hs HQ2
          obtain ⟨b', o', e', d1, d2⟩ := HH.out.below hb i (by omega)
          simp only [Option.some.injEq, Addr.mk.injEq, and_true] at e'
          obtain ⟨rfl, rfl⟩ := e'
          have HC : Hid (q2 = true ↔ Climbs f j) := show _ ↔ _ by
            rw [HQ2.out]
            unfold Climbs
            rw [hi]
            exact ⟨fun q _ => q, fun q => q h0⟩
          have hz : (0 : Int) < (j : Int) := by omega
          have hz3 : decide (0 < j) = true := by simp [h0]
          have j1 : (j : Int) - 1 = (i : Int) := by omega
          have j2 : IntKind.i64.wrap (i : Int) = (i : Int) := by rw [IntKind.wrap_i64]; omega
          have i2 : (0 : Int) ≤ (i : Int) := by omega
          have i3 : (i : Int) < (m : Int) := by omega
          clear hi HQ2
          generalize (f j).1 = x1 at *
          generalize (f j).2 = x2 at *
          generalize (f i).1 = z1 at *
          generalize (f i).2 = z2 at *
          clear hb
          go_wp2_with fail
          refine (hr _).mono ?_
          rintro e w1 ⟨rfl, hb1⟩
          have HB1 : Hid (Below w.heap.size w w1) := below_step HB.out (below_step (below_box _ _) hb1)
          have hk : Below wr.heap.size wr w1 := below_step (below_box _ _) hb1
          have k1 := cell_keep hk d1
          have k2 := cell_keep hk d2
          have k3 : w1.cell? ⟨wr.heap.size, 0, none⟩ = some (.int .i64 x1) := cell_keep hb1 (by simp)
          have k4 : w1.cell? ⟨wr.heap.size, 1, none⟩ = some (.int .i64 x2) := cell_keep hb1 (by simp)
          clear hb1 hk c1 c2 d1 d2 hr
          generalize wr.heap.size = B at k3 k4 ⊢
          cases q2 with
          | false =>
            have HF : Hid (EFault n m f j 2) := Or.inr (Or.inr (Or.inl ⟨HN.out.1, HN.out.2.1, hlt, HA.out, Or.inr ⟨HS.out, fun q => absurd (HC.out.2 q) (by decide), rfl⟩⟩))
            go_wp2_with fail
            go_region_held3 (fun V => V.cell? ⟨b, o + i * 2, none⟩ = some (.int .i64 z1) ∧ V.cell? ⟨b, o + i * 2 + 1, none⟩ = some (.int .i64 z2) ∧ V.cell? ⟨B, 0, none⟩ = some (.int .i64 x1) ∧ V.cell? ⟨B, 1, none⟩ = some (.int .i64 x2)) (first | (go_keep; done) | exact ⟨cell_keep hb2 k1, cell_keep hb2 k2, cell_keep hb2 k3, cell_keep hb2 k4⟩)
              (first | (go_at_call 22; refine (hs w1.drew).mono ?_; rintro e w2 ⟨rfl, hb2⟩; replace hb2 : Below w1.heap.size w1 w2 := below_step (Below.refl _ _).drew hb2))
            go_wp2_with fail
            go_ret2
            exact ⟨j, 2, rfl, HF.out, below_step HB1.out hb2⟩
          | true =>
            have HM : Hid (∀ i, i < j + 1 → May n.toNat f i) := fun k hk => by
              rcases Nat.lt_or_ge k j with q | q
              · exact HA.out k q
              · obtain rfl : k = j := by omega
                exact ⟨HS.out, HC.out.1 rfl⟩
            go_wp2_with fail
            go_region_held3 (fun V => V.cell? ⟨b, o + i * 2, none⟩ = some (.int .i64 z1) ∧ V.cell? ⟨b, o + i * 2 + 1, none⟩ = some (.int .i64 z2) ∧ V.cell? ⟨B, 0, none⟩ = some (.int .i64 x1) ∧ V.cell? ⟨B, 1, none⟩ = some (.int .i64 x2)) (first | (go_keep; done) | exact ⟨cell_keep hb2 k1, cell_keep hb2 k2, cell_keep hb2 k3, cell_keep hb2 k4⟩)
              (first | (go_at_call 22; refine (hs w1.drew).mono ?_; rintro e w2 ⟨rfl, hb2⟩; replace hb2 : Below w1.heap.size w1 w2 := below_step (Below.refl _ _).drew hb2))
            have HB2 : Hid (Below w.heap.size w w2) := below_step HB1.out hb2
            clear hb2
            go_wp2_with fail
            go_roundw
            case rel => exact ⟨j + 1, by omega, by go_num, HB2.out, HM.out⟩
            case measure => simp [intOf]; omega
    · have HE : Hid (EFault n m f 0 0) := Or.inr (Or.inr (Or.inr ⟨HN.out.1, HN.out.2.1, fun i hi => HA.out i (by omega), rfl, rfl⟩))
      go_wp2_with fail
      go_ret2
      exact ⟨0, 0, rfl, HE.out, HB.out⟩

end Go.Proofs.YtgmadfiibaeleacDoor.Br
