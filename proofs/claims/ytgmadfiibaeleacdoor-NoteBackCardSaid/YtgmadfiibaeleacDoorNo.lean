/-
  An event's text: Text of package note.
-/
import Derived.Test.YtgmadfiibaeleacDoorNn
import Derived.Test.YtgmadfiibaeleacDoorNe
import Derived.Test.YtgmadfiibaeleacDoorBp
namespace Go.Proofs.YtgmadfiibaeleacDoor.Nt
open Go.RowKit Go.Deep Go.Proofs.YtgmadfiibaeleacDoor.Br
open Go.RowKit (Below)
set_option linter.unusedVariables false

variable {w w' : World}

set_option maxRecDepth 100000 in
theorem isnode_any (a : Int) (W : World) (q : Bool) (hq : q = true ↔ (0 ≤ a ∧ a < 60)) : Calls Tryd.prog 11 #[.int .i64 a] W fun e w' => e = .returned (.bool q) ∧ w' = W := by
  by_cases h1 : 0 ≤ a
  · by_cases h2 : a < 60
    · obtain rfl := hq.2 ⟨h1, h2⟩
      clear hq
      go_enter Tryd.func11, Tryd.ntmps11
      go_wp2_with fail
      go_ret
      exact ⟨rfl, rfl⟩
    · obtain rfl : q = false := Bool.eq_false_iff.2 fun z => h2 (hq.1 z).2
      clear hq
      go_enter Tryd.func11, Tryd.ntmps11
      go_wp2_with fail
      go_ret
      exact ⟨rfl, rfl⟩
  · obtain rfl : q = false := Bool.eq_false_iff.2 fun z => h1 (hq.1 z).1
    clear hq
    go_enter Tryd.func11, Tryd.ntmps11
    go_wp2_with fail
    go_ret
    exact ⟨rfl, rfl⟩

theorem conv1 (W : World) : (convert 5 9 (.int .u8 43)).run Tryd.prog W = .ok (.string (ByteArray.mk #[43])) W := by kernel_rfl
theorem conv2 (W : World) : (convert 5 9 (.int .u8 45)).run Tryd.prog W = .ok (.string (ByteArray.mk #[45])) W := by kernel_rfl
theorem conv3 (W : World) : (convert 5 9 (.int .u8 63)).run Tryd.prog W = .ok (.string (ByteArray.mk #[63])) W := by kernel_rfl

theorem conv_mark {k : Nat} (hk : 1 ≤ k ∧ k ≤ 3) (W : World) : (convert 5 9 (.int .u8 ((mark k).toNat : Int))).run Tryd.prog W = .ok (.string (str [mark k])) W := by
  have : k = 1 ∨ k = 2 ∨ k = 3 := by omega
  rcases this with rfl | rfl | rfl
  · exact conv1 W
  · exact conv2 W
  · exact conv3 W

theorem mark_get {k : Nat} (hk : 1 ≤ k ∧ k ≤ 3) (h : k - 1 < (ByteArray.mk #[43, 45, 63]).size) : (ByteArray.mk #[43, 45, 63])[k - 1]'h = mark k := by
  have : k = 1 ∨ k = 2 ∨ k = 3 := by omega
  rcases this with rfl | rfl | rfl <;> rfl

set_option maxRecDepth 100000 in
set_option maxHeartbeats 1000000 in
/-- Text where it is none. -/
theorem text_no (k a b : Int) (h : ¬ EvOk k a b) : Calls Tryd.prog 4 #[evv k a b] w fun e w' => e = .returned (.tuple #[.string (ByteArray.mk #[]), .iface 39 (.int .i64 1)]) ∧ Below w.heap.size w w' := by
  unfold evv
  by_cases hk : 1 ≤ k ∧ k ≤ 3
  · obtain ⟨p, hp⟩ : ∃ p : Bool, p = true ↔ (0 ≤ a ∧ a < 60) := ⟨decide (0 ≤ a ∧ a < 60), by simp⟩
    obtain ⟨q, hq⟩ : ∃ q : Bool, q = true ↔ (0 ≤ b ∧ b < 60) := ⟨decide (0 ≤ b ∧ b < 60), by simp⟩
    have q1 := fun W => isnode_any a W p hp
    have q2 := fun W => isnode_any b W q hq
    have hpq : p = false ∨ (p = true ∧ q = false) := by
      cases p with
      | false => exact Or.inl rfl
      | true =>
        cases q with
        | false => exact Or.inr ⟨rfl, rfl⟩
        | true => exact absurd ⟨hk, hp.1 rfl, hq.1 rfl⟩ h
    clear h hp hq
    have hk3 : k = 1 ∨ k = 2 ∨ k = 3 := by omega
    clear hk
    rcases hk3 with rfl | rfl | rfl <;> rcases hpq with rfl | ⟨rfl, rfl⟩
    · go_enter Tryd.func4, Tryd.ntmps4
      go_wp2_with fail
      refine (q1 _).mono ?_
      rintro e w1 ⟨rfl, rfl⟩
      go_wp2_with fail
      go_ret2
      exact ⟨rfl, (Below.refl _ _).alloc (Nat.le_refl _) _⟩
    · go_enter Tryd.func4, Tryd.ntmps4
      go_wp2_with fail
      refine (q1 _).mono ?_
      rintro e w1 ⟨rfl, rfl⟩
      go_wp2_with fail
      refine (q2 _).mono ?_
      rintro e w1 ⟨rfl, rfl⟩
      go_wp2_with fail
      go_ret2
      exact ⟨rfl, (Below.refl _ _).alloc (Nat.le_refl _) _⟩
    · go_enter Tryd.func4, Tryd.ntmps4
      go_wp2_with fail
      refine (q1 _).mono ?_
      rintro e w1 ⟨rfl, rfl⟩
      go_wp2_with fail
      go_ret2
      exact ⟨rfl, (Below.refl _ _).alloc (Nat.le_refl _) _⟩
    · go_enter Tryd.func4, Tryd.ntmps4
      go_wp2_with fail
      refine (q1 _).mono ?_
      rintro e w1 ⟨rfl, rfl⟩
      go_wp2_with fail
      refine (q2 _).mono ?_
      rintro e w1 ⟨rfl, rfl⟩
      go_wp2_with fail
      go_ret2
      exact ⟨rfl, (Below.refl _ _).alloc (Nat.le_refl _) _⟩
    · go_enter Tryd.func4, Tryd.ntmps4
      go_wp2_with fail
      refine (q1 _).mono ?_
      rintro e w1 ⟨rfl, rfl⟩
      go_wp2_with fail
      go_ret2
      exact ⟨rfl, (Below.refl _ _).alloc (Nat.le_refl _) _⟩
    · go_enter Tryd.func4, Tryd.ntmps4
      go_wp2_with fail
      refine (q1 _).mono ?_
      rintro e w1 ⟨rfl, rfl⟩
      go_wp2_with fail
      refine (q2 _).mono ?_
      rintro e w1 ⟨rfl, rfl⟩
      go_wp2_with fail
      go_ret2
      exact ⟨rfl, (Below.refl _ _).alloc (Nat.le_refl _) _⟩
  · have t1 : (k != 1) = true := by rw [bne_iff_ne]; omega
    have t2 : (k != 2) = true := by rw [bne_iff_ne]; omega
    have t3 : (k != 3) = true := by rw [bne_iff_ne]; omega
    clear h hk
    go_enter Tryd.func4, Tryd.ntmps4
    go_wp2_with fail
    go_ret2
    exact ⟨rfl, (Below.refl _ _).alloc (Nat.le_refl _) _⟩

set_option maxRecDepth 100000 in
set_option maxHeartbeats 4000000 in
theorem text_ok1 {k a b : Nat} (hk : k = 1) (ha : a ≤ 59) (hb : b ≤ 59) : Calls Tryd.prog 4 #[evv (k : Nat) (a : Nat) (b : Nat)] w fun e w' => e = .returned (.tuple #[.string (str (text k a b)), .nilIface]) ∧ Below w.heap.size w w' := by
  unfold evv
  obtain ⟨t, ht⟩ : ∃ t, k - 1 = t := ⟨_, rfl⟩
  obtain ⟨D, hD⟩ : ∃ D : Nat → ByteArray, ∀ x, D x = str (dgt x) := ⟨_, fun _ => rfl⟩
  have q : ∀ (W : World) (x : Nat), x ≤ 59 → Calls Tryd.prog 12 #[.int .i64 (x : Nat)] W fun e w' => e = .returned (.string (D x)) ∧ w' = W := fun W x hx => by rw [hD]; exact itoa_any hx
  have q1 := fun W => isnode_any (a : Nat) W true (by simp; omega)
  have q2 := fun W => isnode_any (b : Nat) W true (by simp; omega)
  have n1 : ((k : Int) != 1) = false := by rw [bne_eq_false_iff_eq]; omega
  have m1 : (k != 1) = false := by rw [bne_eq_false_iff_eq]; omega
  have hcv := fun W => conv_mark (k := k) (by omega) W
  have gm := fun h => mark_get (k := k) (by omega) h
  rw [ht] at gm
  have gz : (ByteArray.mk #[43, 45, 63]).size = 3 := rfl
  obtain ⟨sm, hsm⟩ : ∃ s, str [mark k] = s := ⟨_, rfl⟩
  obtain ⟨s3, hs3⟩ : ∃ s, (ByteArray.mk #[32]) = s := ⟨_, rfl⟩
  have z1 : sm.size = 1 := by rw [← hsm]; exact str_size _
  have z4 : s3.size = 1 := by rw [← hs3]; rfl
  have z2 : (D a).size = 1 ∨ (D a).size = 2 := by rw [hD, str_size]; unfold dgt; split <;> simp
  have z3 : (D b).size = 1 ∨ (D b).size = 2 := by rw [hD, str_size]; unfold dgt; split <;> simp
  have HS : Hid (str (text k a b) = sm ++ D a ++ s3 ++ D b) := show _ = _ by rw [← hsm, ← hs3, hD, hD, show (ByteArray.mk #[32]) = str [32] from rfl, str_app, str_app, str_app]; simp [text]
  rw [hsm] at hcv
  have l1 : (k : Int) - 1 = (t : Int) := by omega
  have l2 : IntKind.i64.wrap (t : Int) = (t : Int) := by rw [IntKind.wrap_i64]; omega
  have l3 : (0 : Int) ≤ (t : Int) := by omega
  have l4 : (t : Int) < 3 := by omega
  have l5 : t < 3 := by omega
  generalize mark k = mk at gm hcv
  clear hsm hD ht hk
  rcases z2 with z2 | z2 <;> rcases z3 with z3 | z3
  · go_enter Tryd.func4, Tryd.ntmps4
    go_wp2_with fail
    refine (q1 _).mono ?_
    rintro e w1 ⟨rfl, rfl⟩
    go_wp2_with fail
    refine (q2 _).mono ?_
    rintro e w1 ⟨rfl, rfl⟩
    go_wp2_with fail
    have e1 : (w.alloc (.cells #[.int .i64 (k : Int), .int .i64 (a : Int), .int .i64 (b : Int)] 24)).cell? ⟨w.heap.size, 1, none⟩ = some (.int .i64 (a : Nat)) := by simp
    have e2 : (w.alloc (.cells #[.int .i64 (k : Int), .int .i64 (a : Int), .int .i64 (b : Int)] 24)).cell? ⟨w.heap.size, 2, none⟩ = some (.int .i64 (b : Nat)) := by simp
    have HB : Hid (Below w.heap.size w (w.alloc (.cells #[.int .i64 (k : Int), .int .i64 (a : Int), .int .i64 (b : Int)] 24))) := (Below.refl _ _).alloc (Nat.le_refl _) _
    generalize w.alloc (.cells #[.int .i64 (k : Int), .int .i64 (a : Int), .int .i64 (b : Int)] 24) = W at e1 e2 HB ⊢
    generalize w.heap.size = B0 at e1 e2 ⊢
    clear q1 q2
    rw [hs3]
    go_region_held3 (fun V => V.cell? ⟨B0, 1, none⟩ = some (.int .i64 (a : Nat)) ∧ V.cell? ⟨B0, 2, none⟩ = some (.int .i64 (b : Nat))) (first | (go_keep; done) | exact ⟨e1, e2⟩)
      (first | (go_at_call 12; refine (q _ _ (by assumption)).mono ?_; rintro e w1 ⟨rfl, rfl⟩))
    go_wp2_with fail
    go_ret2
    exact ⟨by rw [HS.out]; rfl, below_step HB.out ((Below.refl _ _).drew)⟩
  · go_enter Tryd.func4, Tryd.ntmps4
    go_wp2_with fail
    refine (q1 _).mono ?_
    rintro e w1 ⟨rfl, rfl⟩
    go_wp2_with fail
    refine (q2 _).mono ?_
    rintro e w1 ⟨rfl, rfl⟩
    go_wp2_with fail
    have e1 : (w.alloc (.cells #[.int .i64 (k : Int), .int .i64 (a : Int), .int .i64 (b : Int)] 24)).cell? ⟨w.heap.size, 1, none⟩ = some (.int .i64 (a : Nat)) := by simp
    have e2 : (w.alloc (.cells #[.int .i64 (k : Int), .int .i64 (a : Int), .int .i64 (b : Int)] 24)).cell? ⟨w.heap.size, 2, none⟩ = some (.int .i64 (b : Nat)) := by simp
    have HB : Hid (Below w.heap.size w (w.alloc (.cells #[.int .i64 (k : Int), .int .i64 (a : Int), .int .i64 (b : Int)] 24))) := (Below.refl _ _).alloc (Nat.le_refl _) _
    generalize w.alloc (.cells #[.int .i64 (k : Int), .int .i64 (a : Int), .int .i64 (b : Int)] 24) = W at e1 e2 HB ⊢
    generalize w.heap.size = B0 at e1 e2 ⊢
    clear q1 q2
    rw [hs3]
    go_region_held3 (fun V => V.cell? ⟨B0, 1, none⟩ = some (.int .i64 (a : Nat)) ∧ V.cell? ⟨B0, 2, none⟩ = some (.int .i64 (b : Nat))) (first | (go_keep; done) | exact ⟨e1, e2⟩)
      (first | (go_at_call 12; refine (q _ _ (by assumption)).mono ?_; rintro e w1 ⟨rfl, rfl⟩))
    go_wp2_with fail
    go_ret2
    exact ⟨by rw [HS.out]; rfl, below_step HB.out ((Below.refl _ _).drew)⟩
  · go_enter Tryd.func4, Tryd.ntmps4
    go_wp2_with fail
    refine (q1 _).mono ?_
    rintro e w1 ⟨rfl, rfl⟩
    go_wp2_with fail
    refine (q2 _).mono ?_
    rintro e w1 ⟨rfl, rfl⟩
    go_wp2_with fail
    have e1 : (w.alloc (.cells #[.int .i64 (k : Int), .int .i64 (a : Int), .int .i64 (b : Int)] 24)).cell? ⟨w.heap.size, 1, none⟩ = some (.int .i64 (a : Nat)) := by simp
    have e2 : (w.alloc (.cells #[.int .i64 (k : Int), .int .i64 (a : Int), .int .i64 (b : Int)] 24)).cell? ⟨w.heap.size, 2, none⟩ = some (.int .i64 (b : Nat)) := by simp
    have HB : Hid (Below w.heap.size w (w.alloc (.cells #[.int .i64 (k : Int), .int .i64 (a : Int), .int .i64 (b : Int)] 24))) := (Below.refl _ _).alloc (Nat.le_refl _) _
    generalize w.alloc (.cells #[.int .i64 (k : Int), .int .i64 (a : Int), .int .i64 (b : Int)] 24) = W at e1 e2 HB ⊢
    generalize w.heap.size = B0 at e1 e2 ⊢
    clear q1 q2
    rw [hs3]
    go_region_held3 (fun V => V.cell? ⟨B0, 1, none⟩ = some (.int .i64 (a : Nat)) ∧ V.cell? ⟨B0, 2, none⟩ = some (.int .i64 (b : Nat))) (first | (go_keep; done) | exact ⟨e1, e2⟩)
      (first | (go_at_call 12; refine (q _ _ (by assumption)).mono ?_; rintro e w1 ⟨rfl, rfl⟩))
    go_wp2_with fail
    go_ret2
    exact ⟨by rw [HS.out]; rfl, below_step HB.out ((Below.refl _ _).drew)⟩
  · go_enter Tryd.func4, Tryd.ntmps4
    go_wp2_with fail
    refine (q1 _).mono ?_
    rintro e w1 ⟨rfl, rfl⟩
    go_wp2_with fail
    refine (q2 _).mono ?_
    rintro e w1 ⟨rfl, rfl⟩
    go_wp2_with fail
    have e1 : (w.alloc (.cells #[.int .i64 (k : Int), .int .i64 (a : Int), .int .i64 (b : Int)] 24)).cell? ⟨w.heap.size, 1, none⟩ = some (.int .i64 (a : Nat)) := by simp
    have e2 : (w.alloc (.cells #[.int .i64 (k : Int), .int .i64 (a : Int), .int .i64 (b : Int)] 24)).cell? ⟨w.heap.size, 2, none⟩ = some (.int .i64 (b : Nat)) := by simp
    have HB : Hid (Below w.heap.size w (w.alloc (.cells #[.int .i64 (k : Int), .int .i64 (a : Int), .int .i64 (b : Int)] 24))) := (Below.refl _ _).alloc (Nat.le_refl _) _
    generalize w.alloc (.cells #[.int .i64 (k : Int), .int .i64 (a : Int), .int .i64 (b : Int)] 24) = W at e1 e2 HB ⊢
    generalize w.heap.size = B0 at e1 e2 ⊢
    clear q1 q2
    rw [hs3]
    go_region_held3 (fun V => V.cell? ⟨B0, 1, none⟩ = some (.int .i64 (a : Nat)) ∧ V.cell? ⟨B0, 2, none⟩ = some (.int .i64 (b : Nat))) (first | (go_keep; done) | exact ⟨e1, e2⟩)
      (first | (go_at_call 12; refine (q _ _ (by assumption)).mono ?_; rintro e w1 ⟨rfl, rfl⟩))
    go_wp2_with fail
    go_ret2
    exact ⟨by rw [HS.out]; rfl, below_step HB.out ((Below.refl _ _).drew)⟩

set_option maxRecDepth 100000 in
set_option maxHeartbeats 4000000 in
theorem text_ok2 {k a b : Nat} (hk : k = 2) (ha : a ≤ 59) (hb : b ≤ 59) : Calls Tryd.prog 4 #[evv (k : Nat) (a : Nat) (b : Nat)] w fun e w' => e = .returned (.tuple #[.string (str (text k a b)), .nilIface]) ∧ Below w.heap.size w w' := by
  unfold evv
  obtain ⟨t, ht⟩ : ∃ t, k - 1 = t := ⟨_, rfl⟩
  obtain ⟨D, hD⟩ : ∃ D : Nat → ByteArray, ∀ x, D x = str (dgt x) := ⟨_, fun _ => rfl⟩
  have q : ∀ (W : World) (x : Nat), x ≤ 59 → Calls Tryd.prog 12 #[.int .i64 (x : Nat)] W fun e w' => e = .returned (.string (D x)) ∧ w' = W := fun W x hx => by rw [hD]; exact itoa_any hx
  have q1 := fun W => isnode_any (a : Nat) W true (by simp; omega)
  have q2 := fun W => isnode_any (b : Nat) W true (by simp; omega)
  have n1 : ((k : Int) != 1) = true := by rw [bne_iff_ne]; omega
  have m1 : (k != 1) = true := by rw [bne_iff_ne]; omega
  have n2 : ((k : Int) != 2) = false := by rw [bne_eq_false_iff_eq]; omega
  have m2 : (k != 2) = false := by rw [bne_eq_false_iff_eq]; omega
  have hcv := fun W => conv_mark (k := k) (by omega) W
  have gm := fun h => mark_get (k := k) (by omega) h
  rw [ht] at gm
  have gz : (ByteArray.mk #[43, 45, 63]).size = 3 := rfl
  obtain ⟨sm, hsm⟩ : ∃ s, str [mark k] = s := ⟨_, rfl⟩
  obtain ⟨s3, hs3⟩ : ∃ s, (ByteArray.mk #[32]) = s := ⟨_, rfl⟩
  have z1 : sm.size = 1 := by rw [← hsm]; exact str_size _
  have z4 : s3.size = 1 := by rw [← hs3]; rfl
  have z2 : (D a).size = 1 ∨ (D a).size = 2 := by rw [hD, str_size]; unfold dgt; split <;> simp
  have z3 : (D b).size = 1 ∨ (D b).size = 2 := by rw [hD, str_size]; unfold dgt; split <;> simp
  have HS : Hid (str (text k a b) = sm ++ D a ++ s3 ++ D b) := show _ = _ by rw [← hsm, ← hs3, hD, hD, show (ByteArray.mk #[32]) = str [32] from rfl, str_app, str_app, str_app]; simp [text]
  rw [hsm] at hcv
  have l1 : (k : Int) - 1 = (t : Int) := by omega
  have l2 : IntKind.i64.wrap (t : Int) = (t : Int) := by rw [IntKind.wrap_i64]; omega
  have l3 : (0 : Int) ≤ (t : Int) := by omega
  have l4 : (t : Int) < 3 := by omega
  have l5 : t < 3 := by omega
  generalize mark k = mk at gm hcv
  clear hsm hD ht hk
  rcases z2 with z2 | z2 <;> rcases z3 with z3 | z3
  · go_enter Tryd.func4, Tryd.ntmps4
    go_wp2_with fail
    refine (q1 _).mono ?_
    rintro e w1 ⟨rfl, rfl⟩
    go_wp2_with fail
    refine (q2 _).mono ?_
    rintro e w1 ⟨rfl, rfl⟩
    go_wp2_with fail
    have e1 : (w.alloc (.cells #[.int .i64 (k : Int), .int .i64 (a : Int), .int .i64 (b : Int)] 24)).cell? ⟨w.heap.size, 1, none⟩ = some (.int .i64 (a : Nat)) := by simp
    have e2 : (w.alloc (.cells #[.int .i64 (k : Int), .int .i64 (a : Int), .int .i64 (b : Int)] 24)).cell? ⟨w.heap.size, 2, none⟩ = some (.int .i64 (b : Nat)) := by simp
    have HB : Hid (Below w.heap.size w (w.alloc (.cells #[.int .i64 (k : Int), .int .i64 (a : Int), .int .i64 (b : Int)] 24))) := (Below.refl _ _).alloc (Nat.le_refl _) _
    generalize w.alloc (.cells #[.int .i64 (k : Int), .int .i64 (a : Int), .int .i64 (b : Int)] 24) = W at e1 e2 HB ⊢
    generalize w.heap.size = B0 at e1 e2 ⊢
    clear q1 q2
    rw [hs3]
    go_region_held3 (fun V => V.cell? ⟨B0, 1, none⟩ = some (.int .i64 (a : Nat)) ∧ V.cell? ⟨B0, 2, none⟩ = some (.int .i64 (b : Nat))) (first | (go_keep; done) | exact ⟨e1, e2⟩)
      (first | (go_at_call 12; refine (q _ _ (by assumption)).mono ?_; rintro e w1 ⟨rfl, rfl⟩))
    go_wp2_with fail
    go_ret2
    exact ⟨by rw [HS.out]; rfl, below_step HB.out ((Below.refl _ _).drew)⟩
  · go_enter Tryd.func4, Tryd.ntmps4
    go_wp2_with fail
    refine (q1 _).mono ?_
    rintro e w1 ⟨rfl, rfl⟩
    go_wp2_with fail
    refine (q2 _).mono ?_
    rintro e w1 ⟨rfl, rfl⟩
    go_wp2_with fail
    have e1 : (w.alloc (.cells #[.int .i64 (k : Int), .int .i64 (a : Int), .int .i64 (b : Int)] 24)).cell? ⟨w.heap.size, 1, none⟩ = some (.int .i64 (a : Nat)) := by simp
    have e2 : (w.alloc (.cells #[.int .i64 (k : Int), .int .i64 (a : Int), .int .i64 (b : Int)] 24)).cell? ⟨w.heap.size, 2, none⟩ = some (.int .i64 (b : Nat)) := by simp
    have HB : Hid (Below w.heap.size w (w.alloc (.cells #[.int .i64 (k : Int), .int .i64 (a : Int), .int .i64 (b : Int)] 24))) := (Below.refl _ _).alloc (Nat.le_refl _) _
    generalize w.alloc (.cells #[.int .i64 (k : Int), .int .i64 (a : Int), .int .i64 (b : Int)] 24) = W at e1 e2 HB ⊢
    generalize w.heap.size = B0 at e1 e2 ⊢
    clear q1 q2
    rw [hs3]
    go_region_held3 (fun V => V.cell? ⟨B0, 1, none⟩ = some (.int .i64 (a : Nat)) ∧ V.cell? ⟨B0, 2, none⟩ = some (.int .i64 (b : Nat))) (first | (go_keep; done) | exact ⟨e1, e2⟩)
      (first | (go_at_call 12; refine (q _ _ (by assumption)).mono ?_; rintro e w1 ⟨rfl, rfl⟩))
    go_wp2_with fail
    go_ret2
    exact ⟨by rw [HS.out]; rfl, below_step HB.out ((Below.refl _ _).drew)⟩
  · go_enter Tryd.func4, Tryd.ntmps4
    go_wp2_with fail
    refine (q1 _).mono ?_
    rintro e w1 ⟨rfl, rfl⟩
    go_wp2_with fail
    refine (q2 _).mono ?_
    rintro e w1 ⟨rfl, rfl⟩
    go_wp2_with fail
    have e1 : (w.alloc (.cells #[.int .i64 (k : Int), .int .i64 (a : Int), .int .i64 (b : Int)] 24)).cell? ⟨w.heap.size, 1, none⟩ = some (.int .i64 (a : Nat)) := by simp
    have e2 : (w.alloc (.cells #[.int .i64 (k : Int), .int .i64 (a : Int), .int .i64 (b : Int)] 24)).cell? ⟨w.heap.size, 2, none⟩ = some (.int .i64 (b : Nat)) := by simp
    have HB : Hid (Below w.heap.size w (w.alloc (.cells #[.int .i64 (k : Int), .int .i64 (a : Int), .int .i64 (b : Int)] 24))) := (Below.refl _ _).alloc (Nat.le_refl _) _
    generalize w.alloc (.cells #[.int .i64 (k : Int), .int .i64 (a : Int), .int .i64 (b : Int)] 24) = W at e1 e2 HB ⊢
    generalize w.heap.size = B0 at e1 e2 ⊢
    clear q1 q2
    rw [hs3]
    go_region_held3 (fun V => V.cell? ⟨B0, 1, none⟩ = some (.int .i64 (a : Nat)) ∧ V.cell? ⟨B0, 2, none⟩ = some (.int .i64 (b : Nat))) (first | (go_keep; done) | exact ⟨e1, e2⟩)
      (first | (go_at_call 12; refine (q _ _ (by assumption)).mono ?_; rintro e w1 ⟨rfl, rfl⟩))
    go_wp2_with fail
    go_ret2
    exact ⟨by rw [HS.out]; rfl, below_step HB.out ((Below.refl _ _).drew)⟩
  · go_enter Tryd.func4, Tryd.ntmps4
    go_wp2_with fail
    refine (q1 _).mono ?_
    rintro e w1 ⟨rfl, rfl⟩
    go_wp2_with fail
    refine (q2 _).mono ?_
    rintro e w1 ⟨rfl, rfl⟩
    go_wp2_with fail
    have e1 : (w.alloc (.cells #[.int .i64 (k : Int), .int .i64 (a : Int), .int .i64 (b : Int)] 24)).cell? ⟨w.heap.size, 1, none⟩ = some (.int .i64 (a : Nat)) := by simp
    have e2 : (w.alloc (.cells #[.int .i64 (k : Int), .int .i64 (a : Int), .int .i64 (b : Int)] 24)).cell? ⟨w.heap.size, 2, none⟩ = some (.int .i64 (b : Nat)) := by simp
    have HB : Hid (Below w.heap.size w (w.alloc (.cells #[.int .i64 (k : Int), .int .i64 (a : Int), .int .i64 (b : Int)] 24))) := (Below.refl _ _).alloc (Nat.le_refl _) _
    generalize w.alloc (.cells #[.int .i64 (k : Int), .int .i64 (a : Int), .int .i64 (b : Int)] 24) = W at e1 e2 HB ⊢
    generalize w.heap.size = B0 at e1 e2 ⊢
    clear q1 q2
    rw [hs3]
    go_region_held3 (fun V => V.cell? ⟨B0, 1, none⟩ = some (.int .i64 (a : Nat)) ∧ V.cell? ⟨B0, 2, none⟩ = some (.int .i64 (b : Nat))) (first | (go_keep; done) | exact ⟨e1, e2⟩)
      (first | (go_at_call 12; refine (q _ _ (by assumption)).mono ?_; rintro e w1 ⟨rfl, rfl⟩))
    go_wp2_with fail
    go_ret2
    exact ⟨by rw [HS.out]; rfl, below_step HB.out ((Below.refl _ _).drew)⟩

set_option maxRecDepth 100000 in
set_option maxHeartbeats 4000000 in
theorem text_ok3 {k a b : Nat} (hk : k = 3) (ha : a ≤ 59) (hb : b ≤ 59) : Calls Tryd.prog 4 #[evv (k : Nat) (a : Nat) (b : Nat)] w fun e w' => e = .returned (.tuple #[.string (str (text k a b)), .nilIface]) ∧ Below w.heap.size w w' := by
  unfold evv
  obtain ⟨t, ht⟩ : ∃ t, k - 1 = t := ⟨_, rfl⟩
  obtain ⟨D, hD⟩ : ∃ D : Nat → ByteArray, ∀ x, D x = str (dgt x) := ⟨_, fun _ => rfl⟩
  have q : ∀ (W : World) (x : Nat), x ≤ 59 → Calls Tryd.prog 12 #[.int .i64 (x : Nat)] W fun e w' => e = .returned (.string (D x)) ∧ w' = W := fun W x hx => by rw [hD]; exact itoa_any hx
  have q1 := fun W => isnode_any (a : Nat) W true (by simp; omega)
  have q2 := fun W => isnode_any (b : Nat) W true (by simp; omega)
  have n1 : ((k : Int) != 1) = true := by rw [bne_iff_ne]; omega
  have m1 : (k != 1) = true := by rw [bne_iff_ne]; omega
  have n2 : ((k : Int) != 2) = true := by rw [bne_iff_ne]; omega
  have m2 : (k != 2) = true := by rw [bne_iff_ne]; omega
  have n3 : ((k : Int) != 3) = false := by rw [bne_eq_false_iff_eq]; omega
  have m3 : (k != 3) = false := by rw [bne_eq_false_iff_eq]; omega
  have hcv := fun W => conv_mark (k := k) (by omega) W
  have gm := fun h => mark_get (k := k) (by omega) h
  rw [ht] at gm
  have gz : (ByteArray.mk #[43, 45, 63]).size = 3 := rfl
  obtain ⟨sm, hsm⟩ : ∃ s, str [mark k] = s := ⟨_, rfl⟩
  obtain ⟨s3, hs3⟩ : ∃ s, (ByteArray.mk #[32]) = s := ⟨_, rfl⟩
  have z1 : sm.size = 1 := by rw [← hsm]; exact str_size _
  have z4 : s3.size = 1 := by rw [← hs3]; rfl
  have z2 : (D a).size = 1 ∨ (D a).size = 2 := by rw [hD, str_size]; unfold dgt; split <;> simp
  have z3 : (D b).size = 1 ∨ (D b).size = 2 := by rw [hD, str_size]; unfold dgt; split <;> simp
  have HS : Hid (str (text k a b) = sm ++ D a ++ s3 ++ D b) := show _ = _ by rw [← hsm, ← hs3, hD, hD, show (ByteArray.mk #[32]) = str [32] from rfl, str_app, str_app, str_app]; simp [text]
  rw [hsm] at hcv
  have l1 : (k : Int) - 1 = (t : Int) := by omega
  have l2 : IntKind.i64.wrap (t : Int) = (t : Int) := by rw [IntKind.wrap_i64]; omega
  have l3 : (0 : Int) ≤ (t : Int) := by omega
  have l4 : (t : Int) < 3 := by omega
  have l5 : t < 3 := by omega
  generalize mark k = mk at gm hcv
  clear hsm hD ht hk
  rcases z2 with z2 | z2 <;> rcases z3 with z3 | z3
  · go_enter Tryd.func4, Tryd.ntmps4
    go_wp2_with fail
    refine (q1 _).mono ?_
    rintro e w1 ⟨rfl, rfl⟩
    go_wp2_with fail
    refine (q2 _).mono ?_
    rintro e w1 ⟨rfl, rfl⟩
    go_wp2_with fail
    have e1 : (w.alloc (.cells #[.int .i64 (k : Int), .int .i64 (a : Int), .int .i64 (b : Int)] 24)).cell? ⟨w.heap.size, 1, none⟩ = some (.int .i64 (a : Nat)) := by simp
    have e2 : (w.alloc (.cells #[.int .i64 (k : Int), .int .i64 (a : Int), .int .i64 (b : Int)] 24)).cell? ⟨w.heap.size, 2, none⟩ = some (.int .i64 (b : Nat)) := by simp
    have HB : Hid (Below w.heap.size w (w.alloc (.cells #[.int .i64 (k : Int), .int .i64 (a : Int), .int .i64 (b : Int)] 24))) := (Below.refl _ _).alloc (Nat.le_refl _) _
    generalize w.alloc (.cells #[.int .i64 (k : Int), .int .i64 (a : Int), .int .i64 (b : Int)] 24) = W at e1 e2 HB ⊢
    generalize w.heap.size = B0 at e1 e2 ⊢
    clear q1 q2
    rw [hs3]
    go_region_held3 (fun V => V.cell? ⟨B0, 1, none⟩ = some (.int .i64 (a : Nat)) ∧ V.cell? ⟨B0, 2, none⟩ = some (.int .i64 (b : Nat))) (first | (go_keep; done) | exact ⟨e1, e2⟩)
      (first | (go_at_call 12; refine (q _ _ (by assumption)).mono ?_; rintro e w1 ⟨rfl, rfl⟩))
    go_wp2_with fail
    go_ret2
    exact ⟨by rw [HS.out]; rfl, below_step HB.out ((Below.refl _ _).drew)⟩
  · go_enter Tryd.func4, Tryd.ntmps4
    go_wp2_with fail
    refine (q1 _).mono ?_
    rintro e w1 ⟨rfl, rfl⟩
    go_wp2_with fail
    refine (q2 _).mono ?_
    rintro e w1 ⟨rfl, rfl⟩
    go_wp2_with fail
    have e1 : (w.alloc (.cells #[.int .i64 (k : Int), .int .i64 (a : Int), .int .i64 (b : Int)] 24)).cell? ⟨w.heap.size, 1, none⟩ = some (.int .i64 (a : Nat)) := by simp
    have e2 : (w.alloc (.cells #[.int .i64 (k : Int), .int .i64 (a : Int), .int .i64 (b : Int)] 24)).cell? ⟨w.heap.size, 2, none⟩ = some (.int .i64 (b : Nat)) := by simp
    have HB : Hid (Below w.heap.size w (w.alloc (.cells #[.int .i64 (k : Int), .int .i64 (a : Int), .int .i64 (b : Int)] 24))) := (Below.refl _ _).alloc (Nat.le_refl _) _
    generalize w.alloc (.cells #[.int .i64 (k : Int), .int .i64 (a : Int), .int .i64 (b : Int)] 24) = W at e1 e2 HB ⊢
    generalize w.heap.size = B0 at e1 e2 ⊢
    clear q1 q2
    rw [hs3]
    go_region_held3 (fun V => V.cell? ⟨B0, 1, none⟩ = some (.int .i64 (a : Nat)) ∧ V.cell? ⟨B0, 2, none⟩ = some (.int .i64 (b : Nat))) (first | (go_keep; done) | exact ⟨e1, e2⟩)
      (first | (go_at_call 12; refine (q _ _ (by assumption)).mono ?_; rintro e w1 ⟨rfl, rfl⟩))
    go_wp2_with fail
    go_ret2
    exact ⟨by rw [HS.out]; rfl, below_step HB.out ((Below.refl _ _).drew)⟩
  · go_enter Tryd.func4, Tryd.ntmps4
    go_wp2_with fail
    refine (q1 _).mono ?_
    rintro e w1 ⟨rfl, rfl⟩
    go_wp2_with fail
    refine (q2 _).mono ?_
    rintro e w1 ⟨rfl, rfl⟩
    go_wp2_with fail
    have e1 : (w.alloc (.cells #[.int .i64 (k : Int), .int .i64 (a : Int), .int .i64 (b : Int)] 24)).cell? ⟨w.heap.size, 1, none⟩ = some (.int .i64 (a : Nat)) := by simp
    have e2 : (w.alloc (.cells #[.int .i64 (k : Int), .int .i64 (a : Int), .int .i64 (b : Int)] 24)).cell? ⟨w.heap.size, 2, none⟩ = some (.int .i64 (b : Nat)) := by simp
    have HB : Hid (Below w.heap.size w (w.alloc (.cells #[.int .i64 (k : Int), .int .i64 (a : Int), .int .i64 (b : Int)] 24))) := (Below.refl _ _).alloc (Nat.le_refl _) _
    generalize w.alloc (.cells #[.int .i64 (k : Int), .int .i64 (a : Int), .int .i64 (b : Int)] 24) = W at e1 e2 HB ⊢
    generalize w.heap.size = B0 at e1 e2 ⊢
    clear q1 q2
    rw [hs3]
    go_region_held3 (fun V => V.cell? ⟨B0, 1, none⟩ = some (.int .i64 (a : Nat)) ∧ V.cell? ⟨B0, 2, none⟩ = some (.int .i64 (b : Nat))) (first | (go_keep; done) | exact ⟨e1, e2⟩)
      (first | (go_at_call 12; refine (q _ _ (by assumption)).mono ?_; rintro e w1 ⟨rfl, rfl⟩))
    go_wp2_with fail
    go_ret2
    exact ⟨by rw [HS.out]; rfl, below_step HB.out ((Below.refl _ _).drew)⟩
  · go_enter Tryd.func4, Tryd.ntmps4
    go_wp2_with fail
    refine (q1 _).mono ?_
    rintro e w1 ⟨rfl, rfl⟩
    go_wp2_with fail
    refine (q2 _).mono ?_
    rintro e w1 ⟨rfl, rfl⟩
    go_wp2_with fail
    have e1 : (w.alloc (.cells #[.int .i64 (k : Int), .int .i64 (a : Int), .int .i64 (b : Int)] 24)).cell? ⟨w.heap.size, 1, none⟩ = some (.int .i64 (a : Nat)) := by simp
    have e2 : (w.alloc (.cells #[.int .i64 (k : Int), .int .i64 (a : Int), .int .i64 (b : Int)] 24)).cell? ⟨w.heap.size, 2, none⟩ = some (.int .i64 (b : Nat)) := by simp
    have HB : Hid (Below w.heap.size w (w.alloc (.cells #[.int .i64 (k : Int), .int .i64 (a : Int), .int .i64 (b : Int)] 24))) := (Below.refl _ _).alloc (Nat.le_refl _) _
    generalize w.alloc (.cells #[.int .i64 (k : Int), .int .i64 (a : Int), .int .i64 (b : Int)] 24) = W at e1 e2 HB ⊢
    generalize w.heap.size = B0 at e1 e2 ⊢
    clear q1 q2
    rw [hs3]
    go_region_held3 (fun V => V.cell? ⟨B0, 1, none⟩ = some (.int .i64 (a : Nat)) ∧ V.cell? ⟨B0, 2, none⟩ = some (.int .i64 (b : Nat))) (first | (go_keep; done) | exact ⟨e1, e2⟩)
      (first | (go_at_call 12; refine (q _ _ (by assumption)).mono ?_; rintro e w1 ⟨rfl, rfl⟩))
    go_wp2_with fail
    go_ret2
    exact ⟨by rw [HS.out]; rfl, below_step HB.out ((Below.refl _ _).drew)⟩

/-- Text where it is one. -/
theorem text_ok {k a b : Nat} (hk : 1 ≤ k ∧ k ≤ 3) (ha : a ≤ 59) (hb : b ≤ 59) : Calls Tryd.prog 4 #[evv (k : Nat) (a : Nat) (b : Nat)] w fun e w' => e = .returned (.tuple #[.string (str (text k a b)), .nilIface]) ∧ Below w.heap.size w w' := by
  have : k = 1 ∨ k = 2 ∨ k = 3 := by omega
  rcases this with e | e | e
  · exact text_ok1 e ha hb
  · exact text_ok2 e ha hb
  · exact text_ok3 e ha hb

end Go.Proofs.YtgmadfiibaeleacDoor.Nt
