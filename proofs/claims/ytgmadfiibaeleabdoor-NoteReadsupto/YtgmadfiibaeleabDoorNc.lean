/-
  The statements' own events: EventFault, EventText.
-/
import Derived.Test.YtgmadfiibaeleabDoorNb
namespace Go.Proofs.YtgmadfiibaeleabDoor.Nt
open Go.RowKit Go.Deep Go.Proofs.YtgmadfiibaeleabDoor.Br
open Go.RowKit (Below)
set_option linter.unusedVariables false

variable {w w' : World}

/-- An event that may be written. -/
def EvOk (k a b : Int) : Prop := (1 ≤ k ∧ k ≤ 3) ∧ (0 ≤ a ∧ a < 60) ∧ (0 ≤ b ∧ b < 60)

def evv (k a b : Int) : Value := .agg #[.int .i64 k, .int .i64 a, .int .i64 b]

set_option maxRecDepth 100000 in
set_option maxHeartbeats 1000000 in
theorem evfault_ok (k a b : Int) (h : EvOk k a b) : Calls Tryd.prog 42 #[evv k a b] w fun e w' => e = .returned (.int .i64 0) ∧ Below w.heap.size w w' := by
  unfold evv
  obtain ⟨⟨h1, h2⟩, h3, h4⟩ := h
  have q1 := fun W => node_any 60 a W true (by simp; omega)
  have q2 := fun W => node_any 60 b W true (by simp; omega)
  have a1 : ¬ k < 1 := by omega
  have a2 : ¬ 3 < k := by omega
  clear h1 h2 h3 h4
  go_enter Tryd.func42, Tryd.ntmps42
  go_wp2_with fail
  refine (q1 _).mono ?_
  rintro e w1 ⟨rfl, rfl⟩
  go_wp2_with fail
  refine (q2 _).mono ?_
  rintro e w1 ⟨rfl, rfl⟩
  go_wp2_with fail
  go_ret
  exact ⟨rfl, (Below.refl _ _).alloc (Nat.le_refl _) _⟩

set_option maxRecDepth 100000 in
set_option maxHeartbeats 1000000 in
theorem evfault_no (k a b : Int) (h : ¬ EvOk k a b) : Calls Tryd.prog 42 #[evv k a b] w fun e w' => e = .returned (.int .i64 1) ∧ Below w.heap.size w w' := by
  unfold evv
  obtain ⟨p, hp⟩ : ∃ p : Bool, p = true ↔ (0 ≤ a ∧ a < 60) := ⟨decide (0 ≤ a ∧ a < 60), by simp⟩
  obtain ⟨q, hq⟩ : ∃ q : Bool, q = true ↔ (0 ≤ b ∧ b < 60) := ⟨decide (0 ≤ b ∧ b < 60), by simp⟩
  have q1 := fun W => node_any 60 a W p hp
  have q2 := fun W => node_any 60 b W q hq
  by_cases a1 : k < 1
  · clear h hp hq
    go_enter Tryd.func42, Tryd.ntmps42
    go_wp2_with fail
    refine (q1 _).mono ?_
    rintro e w1 ⟨rfl, rfl⟩
    go_wp2_with fail
    refine (q2 _).mono ?_
    rintro e w1 ⟨rfl, rfl⟩
    go_wp2_with fail
    go_ret
    exact ⟨rfl, (Below.refl _ _).alloc (Nat.le_refl _) _⟩
  by_cases a2 : 3 < k
  · clear h hp hq
    go_enter Tryd.func42, Tryd.ntmps42
    go_wp2_with fail
    refine (q1 _).mono ?_
    rintro e w1 ⟨rfl, rfl⟩
    go_wp2_with fail
    refine (q2 _).mono ?_
    rintro e w1 ⟨rfl, rfl⟩
    go_wp2_with fail
    go_ret
    exact ⟨rfl, (Below.refl _ _).alloc (Nat.le_refl _) _⟩
  cases p with
  | false =>
    clear h hp hq
    go_enter Tryd.func42, Tryd.ntmps42
    go_wp2_with fail
    refine (q1 _).mono ?_
    rintro e w1 ⟨rfl, rfl⟩
    go_wp2_with fail
    refine (q2 _).mono ?_
    rintro e w1 ⟨rfl, rfl⟩
    go_wp2_with fail
    go_ret
    exact ⟨rfl, (Below.refl _ _).alloc (Nat.le_refl _) _⟩
  | true =>
    cases q with
    | false =>
      clear h hp hq
      go_enter Tryd.func42, Tryd.ntmps42
      go_wp2_with fail
      refine (q1 _).mono ?_
      rintro e w1 ⟨rfl, rfl⟩
      go_wp2_with fail
      refine (q2 _).mono ?_
      rintro e w1 ⟨rfl, rfl⟩
      go_wp2_with fail
      go_ret
      exact ⟨rfl, (Below.refl _ _).alloc (Nat.le_refl _) _⟩
    | true => exact absurd ⟨by omega, hp.1 rfl, hq.1 rfl⟩ h

theorem mark_at {k : Nat} (h : 1 ≤ k ∧ k ≤ 3) : (ByteArray.mk #[43, 45, 63]).extract (k - 1) k = str [mark k] := by
  have : k = 1 ∨ k = 2 ∨ k = 3 := by omega
  rcases this with rfl | rfl | rfl <;> decide

theorem str_blank : (ByteArray.mk #[32]) = str [32] := rfl

set_option maxRecDepth 100000 in
set_option maxHeartbeats 2000000 in
theorem evtext {k a b : Nat} (hk : 1 ≤ k ∧ k ≤ 3) (ha : a ≤ 59) (hb : b ≤ 59) : Calls Tryd.prog 43 #[evv (k : Nat) (a : Nat) (b : Nat)] w fun e w' => e = .returned (.string (str (text k a b))) ∧ Below w.heap.size w w' := by
  unfold evv
  obtain ⟨t, ht⟩ : ∃ t, k - 1 = t := ⟨_, rfl⟩
  have hm := mark_at hk
  rw [ht] at hm
  obtain ⟨D, hD⟩ : ∃ D : Nat → ByteArray, ∀ x, D x = str (dgt x) := ⟨_, fun _ => rfl⟩
  have q : ∀ (W : World) (x : Nat), x ≤ 59 → Calls Tryd.prog 64 #[.int .i64 (x : Nat)] W fun e w' => e = .returned (.string (D x)) ∧ w' = W := fun W x hx => by rw [hD]; exact dec_any x hx
  have l1 : ((k : Nat) : Int) - 1 = (t : Int) := by omega
  have l2 : IntKind.i64.wrap (t : Int) = (t : Int) := by rw [IntKind.wrap_i64]; omega
  have l3 : (0 : Int) ≤ (t : Int) := by omega
  have l4 : (t : Int) ≤ (k : Int) := by omega
  have l5 : (k : Int) ≤ 3 := by omega
  have l6 : (0 : Int) ≤ (k : Int) := by omega
  obtain ⟨sm, hsm⟩ : ∃ s, str [mark k] = s := ⟨_, rfl⟩
  obtain ⟨s3, hs3⟩ : ∃ s, str [32] = s := ⟨_, rfl⟩
  have z1 : sm.size = 1 := by rw [← hsm]; exact str_size _
  have z4 : s3.size = 1 := by rw [← hs3]; exact str_size _
  have z2 : (D a).size = 1 ∨ (D a).size = 2 := by rw [hD, str_size]; unfold dgt; split <;> simp
  have z3 : (D b).size = 1 ∨ (D b).size = 2 := by rw [hD, str_size]; unfold dgt; split <;> simp
  have HS : Hid (str (text k a b) = sm ++ D a ++ s3 ++ D b) := show _ = _ by rw [← hsm, ← hs3, hD, hD, str_app, str_app, str_app]; simp [text]
  have h32 : (ByteArray.mk #[32]) = s3 := by rw [← hs3]; rfl
  rw [hsm] at hm
  clear ht hk hsm hs3 hD
  rcases z2 with z2 | z2 <;> rcases z3 with z3 | z3
  · go_enter Tryd.func43, Tryd.ntmps43
    go_wp2_with fail
    have e0 : (w.alloc (.cells #[.int .i64 (k : Int), .int .i64 (a : Int), .int .i64 (b : Int)] 70)).cell? ⟨w.heap.size, 0, none⟩ = some (.int .i64 (k : Nat)) := by simp
    have e1 : (w.alloc (.cells #[.int .i64 (k : Int), .int .i64 (a : Int), .int .i64 (b : Int)] 70)).cell? ⟨w.heap.size, 1, none⟩ = some (.int .i64 (a : Nat)) := by simp
    have e2 : (w.alloc (.cells #[.int .i64 (k : Int), .int .i64 (a : Int), .int .i64 (b : Int)] 70)).cell? ⟨w.heap.size, 2, none⟩ = some (.int .i64 (b : Nat)) := by simp
    have HB : Hid (Below w.heap.size w (w.alloc (.cells #[.int .i64 (k : Int), .int .i64 (a : Int), .int .i64 (b : Int)] 70))) := (Below.refl _ _).alloc (Nat.le_refl _) _
    generalize w.alloc (.cells #[.int .i64 (k : Int), .int .i64 (a : Int), .int .i64 (b : Int)] 70) = W at e0 e1 e2 HB ⊢
    generalize w.heap.size = B0 at e0 e1 e2 ⊢
    rw [h32]
    go_region_held3 (fun V => V.cell? ⟨B0, 0, none⟩ = some (.int .i64 (k : Nat)) ∧ V.cell? ⟨B0, 1, none⟩ = some (.int .i64 (a : Nat)) ∧ V.cell? ⟨B0, 2, none⟩ = some (.int .i64 (b : Nat))) (first | (go_keep; done) | exact ⟨e0, e1, e2⟩)
      (first | (go_at_call 64; refine (q _ _ (by assumption)).mono ?_; rintro e w1 ⟨rfl, rfl⟩))
    go_wp2_with fail
    go_ret
    exact ⟨by rw [HS.out]; rfl, below_step HB.out ((Below.refl _ _).drew)⟩
  · go_enter Tryd.func43, Tryd.ntmps43
    go_wp2_with fail
    have e0 : (w.alloc (.cells #[.int .i64 (k : Int), .int .i64 (a : Int), .int .i64 (b : Int)] 70)).cell? ⟨w.heap.size, 0, none⟩ = some (.int .i64 (k : Nat)) := by simp
    have e1 : (w.alloc (.cells #[.int .i64 (k : Int), .int .i64 (a : Int), .int .i64 (b : Int)] 70)).cell? ⟨w.heap.size, 1, none⟩ = some (.int .i64 (a : Nat)) := by simp
    have e2 : (w.alloc (.cells #[.int .i64 (k : Int), .int .i64 (a : Int), .int .i64 (b : Int)] 70)).cell? ⟨w.heap.size, 2, none⟩ = some (.int .i64 (b : Nat)) := by simp
    have HB : Hid (Below w.heap.size w (w.alloc (.cells #[.int .i64 (k : Int), .int .i64 (a : Int), .int .i64 (b : Int)] 70))) := (Below.refl _ _).alloc (Nat.le_refl _) _
    generalize w.alloc (.cells #[.int .i64 (k : Int), .int .i64 (a : Int), .int .i64 (b : Int)] 70) = W at e0 e1 e2 HB ⊢
    generalize w.heap.size = B0 at e0 e1 e2 ⊢
    rw [h32]
    go_region_held3 (fun V => V.cell? ⟨B0, 0, none⟩ = some (.int .i64 (k : Nat)) ∧ V.cell? ⟨B0, 1, none⟩ = some (.int .i64 (a : Nat)) ∧ V.cell? ⟨B0, 2, none⟩ = some (.int .i64 (b : Nat))) (first | (go_keep; done) | exact ⟨e0, e1, e2⟩)
      (first | (go_at_call 64; refine (q _ _ (by assumption)).mono ?_; rintro e w1 ⟨rfl, rfl⟩))
    go_wp2_with fail
    go_ret
    exact ⟨by rw [HS.out]; rfl, below_step HB.out ((Below.refl _ _).drew)⟩
  · go_enter Tryd.func43, Tryd.ntmps43
    go_wp2_with fail
    have e0 : (w.alloc (.cells #[.int .i64 (k : Int), .int .i64 (a : Int), .int .i64 (b : Int)] 70)).cell? ⟨w.heap.size, 0, none⟩ = some (.int .i64 (k : Nat)) := by simp
    have e1 : (w.alloc (.cells #[.int .i64 (k : Int), .int .i64 (a : Int), .int .i64 (b : Int)] 70)).cell? ⟨w.heap.size, 1, none⟩ = some (.int .i64 (a : Nat)) := by simp
    have e2 : (w.alloc (.cells #[.int .i64 (k : Int), .int .i64 (a : Int), .int .i64 (b : Int)] 70)).cell? ⟨w.heap.size, 2, none⟩ = some (.int .i64 (b : Nat)) := by simp
    have HB : Hid (Below w.heap.size w (w.alloc (.cells #[.int .i64 (k : Int), .int .i64 (a : Int), .int .i64 (b : Int)] 70))) := (Below.refl _ _).alloc (Nat.le_refl _) _
    generalize w.alloc (.cells #[.int .i64 (k : Int), .int .i64 (a : Int), .int .i64 (b : Int)] 70) = W at e0 e1 e2 HB ⊢
    generalize w.heap.size = B0 at e0 e1 e2 ⊢
    rw [h32]
    go_region_held3 (fun V => V.cell? ⟨B0, 0, none⟩ = some (.int .i64 (k : Nat)) ∧ V.cell? ⟨B0, 1, none⟩ = some (.int .i64 (a : Nat)) ∧ V.cell? ⟨B0, 2, none⟩ = some (.int .i64 (b : Nat))) (first | (go_keep; done) | exact ⟨e0, e1, e2⟩)
      (first | (go_at_call 64; refine (q _ _ (by assumption)).mono ?_; rintro e w1 ⟨rfl, rfl⟩))
    go_wp2_with fail
    go_ret
    exact ⟨by rw [HS.out]; rfl, below_step HB.out ((Below.refl _ _).drew)⟩
  · go_enter Tryd.func43, Tryd.ntmps43
    go_wp2_with fail
    have e0 : (w.alloc (.cells #[.int .i64 (k : Int), .int .i64 (a : Int), .int .i64 (b : Int)] 70)).cell? ⟨w.heap.size, 0, none⟩ = some (.int .i64 (k : Nat)) := by simp
    have e1 : (w.alloc (.cells #[.int .i64 (k : Int), .int .i64 (a : Int), .int .i64 (b : Int)] 70)).cell? ⟨w.heap.size, 1, none⟩ = some (.int .i64 (a : Nat)) := by simp
    have e2 : (w.alloc (.cells #[.int .i64 (k : Int), .int .i64 (a : Int), .int .i64 (b : Int)] 70)).cell? ⟨w.heap.size, 2, none⟩ = some (.int .i64 (b : Nat)) := by simp
    have HB : Hid (Below w.heap.size w (w.alloc (.cells #[.int .i64 (k : Int), .int .i64 (a : Int), .int .i64 (b : Int)] 70))) := (Below.refl _ _).alloc (Nat.le_refl _) _
    generalize w.alloc (.cells #[.int .i64 (k : Int), .int .i64 (a : Int), .int .i64 (b : Int)] 70) = W at e0 e1 e2 HB ⊢
    generalize w.heap.size = B0 at e0 e1 e2 ⊢
    rw [h32]
    go_region_held3 (fun V => V.cell? ⟨B0, 0, none⟩ = some (.int .i64 (k : Nat)) ∧ V.cell? ⟨B0, 1, none⟩ = some (.int .i64 (a : Nat)) ∧ V.cell? ⟨B0, 2, none⟩ = some (.int .i64 (b : Nat))) (first | (go_keep; done) | exact ⟨e0, e1, e2⟩)
      (first | (go_at_call 64; refine (q _ _ (by assumption)).mono ?_; rintro e w1 ⟨rfl, rfl⟩))
    go_wp2_with fail
    go_ret
    exact ⟨by rw [HS.out]; rfl, below_step HB.out ((Below.refl _ _).drew)⟩

end Go.Proofs.YtgmadfiibaeleabDoor.Nt
