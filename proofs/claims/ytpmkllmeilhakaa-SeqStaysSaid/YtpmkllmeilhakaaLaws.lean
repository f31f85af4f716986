/-
  SeqLaws: the walk of the statement, way by way.
-/
import Derived.Test.YtpmkllmeilhakaaWalks4
import Derived.Test.YtpmkllmeilhakaaWalks5
namespace Go.Proofs.Ytpmkllmeilhakaa
open Go.RowKit Go.Deep

/-- A list of two or one numbers that has just been made. -/
theorem ints_two {w : World} (x y : Int) (t : TypeId) : IntsAt (w.alloc (.cells #[Value.int IntKind.i64 x, Value.int IntKind.i64 y] t)) (some ⟨w.heap.size, 0, none⟩) 2 2 [x, y] := by
  refine ⟨rfl, Nat.le_refl _, fun i hi => ⟨_, 0, rfl, ?_⟩⟩
  match i, hi with
  | 0, _ => simp
  | 1, _ => simp
theorem ints_one {w : World} (x : Int) (t : TypeId) : IntsAt (w.alloc (.cells #[Value.int IntKind.i64 x] t)) (some ⟨w.heap.size, 0, none⟩) 1 1 [x] := by
  refine ⟨rfl, Nat.le_refl _, fun i hi => ⟨_, 0, rfl, ?_⟩⟩
  match i, hi with
  | 0, _ => simp

theorem dp_pos {T : BT Int} (h : 0 < sz T) : 1 ≤ dp T := by
  cases T with
  | nil => simp only [sz] at h; omega
  | node b o a l r => simp only [dp]; omega

set_option maxHeartbeats 1000000 in
theorem laws_no000 {a1 a2 a3 : Option Addr} {n1 n2 n3 m1 m2 m3 : Nat} {xs ys zs : List Int} (i : Int) {w : World} (h1 : IntsAt w a1 n1 m1 xs) (h2 : IntsAt w a2 n2 m2 ys) (h3 : IntsAt w a3 n3 m3 zs) (c1 : m1 ≤ maxLen) (c2 : m2 ≤ maxLen) (c3 : m3 ≤ maxLen) (l1 : 400 < n1) (l2 : 400 < n2) (l3 : 400 < n3) :
    Calls Try.prog 3 #[.slice a1 n1 m1, .slice a2 n2 m2, .slice a3 n3 m3, .int .i64 i] w fun e w' => e = .returned (.bool true) ∧ Below w.heap.size w w' := by
  go_enter Try.func3, Try.ntmps3
  go_wp2_with fail
  refine (of_any (ints_two 7 8 _) (by omega) (by unfold maxLen; omega)).mono ?_
  rintro e w0 ⟨v0, T0, rfl, hb0, hr0, _, hf0⟩
  have hs0 : Hid (sz T0 = 2) := sz_of_items hf0
  have hp0 : 1 ≤ dp T0 := dp_pos (by rw [hs0.out]; omega)
  have hB0 : Below w.heap.size w w0 := ((Below.refl _ _).alloc (Nat.le_refl _) _).trans (hb0.mono (by simp))
  clear hb0
  go_wp2_with fail
  refine (len_any hr0).mono ?_
  rintro e w' ⟨rfl, rfl⟩
  rw [hs0.out]
  go_wp2_with fail
  refine (depthOf_any hr0).mono ?_
  rintro e w' ⟨rfl, rfl⟩
  go_wp2_with fail
  refine (of_full l1 (by have := h1.le; unfold maxLen at c1; omega)).mono ?_
  rintro e w' ⟨rfl, rfl⟩
  go_wp2_with fail
  refine (of_full l2 (by have := h2.le; unfold maxLen at c2; omega)).mono ?_
  rintro e w' ⟨rfl, rfl⟩
  go_wp2_with fail
  refine (of_full l3 (by have := h3.le; unfold maxLen at c3; omega)).mono ?_
  rintro e w' ⟨rfl, rfl⟩
  go_wp2_with fail
  go_ret
  exact ⟨rfl, hB0⟩

set_option maxHeartbeats 1000000 in
theorem laws_no001 {a1 a2 a3 : Option Addr} {n1 n2 n3 m1 m2 m3 : Nat} {xs ys zs : List Int} (i : Int) {w : World} (h1 : IntsAt w a1 n1 m1 xs) (h2 : IntsAt w a2 n2 m2 ys) (h3 : IntsAt w a3 n3 m3 zs) (c1 : m1 ≤ maxLen) (c2 : m2 ≤ maxLen) (c3 : m3 ≤ maxLen) (l1 : 400 < n1) (l2 : 400 < n2) (l3 : n3 ≤ 400) :
    Calls Try.prog 3 #[.slice a1 n1 m1, .slice a2 n2 m2, .slice a3 n3 m3, .int .i64 i] w fun e w' => e = .returned (.bool true) ∧ Below w.heap.size w w' := by
  go_enter Try.func3, Try.ntmps3
  go_wp2_with fail
  refine (of_any (ints_two 7 8 _) (by omega) (by unfold maxLen; omega)).mono ?_
  rintro e w0 ⟨v0, T0, rfl, hb0, hr0, _, hf0⟩
  have hs0 : Hid (sz T0 = 2) := sz_of_items hf0
  have hp0 : 1 ≤ dp T0 := dp_pos (by rw [hs0.out]; omega)
  have hB0 : Below w.heap.size w w0 := ((Below.refl _ _).alloc (Nat.le_refl _) _).trans (hb0.mono (by simp))
  clear hb0
  go_wp2_with fail
  refine (len_any hr0).mono ?_
  rintro e w' ⟨rfl, rfl⟩
  rw [hs0.out]
  go_wp2_with fail
  refine (depthOf_any hr0).mono ?_
  rintro e w' ⟨rfl, rfl⟩
  go_wp2_with fail
  refine (of_full l1 (by have := h1.le; unfold maxLen at c1; omega)).mono ?_
  rintro e w' ⟨rfl, rfl⟩
  go_wp2_with fail
  refine (of_full l2 (by have := h2.le; unfold maxLen at c2; omega)).mono ?_
  rintro e w' ⟨rfl, rfl⟩
  go_wp2_with fail
  refine (of_any (h3.below hB0) l3 c3).mono ?_
  rintro e w3 ⟨v3, T3, rfl, hb, hr3, hbal3, hi3⟩
  have hB1 := below_step hB0 hb
  clear hb
  go_wp2_with fail
  go_ret
  exact ⟨rfl, hB1⟩

set_option maxHeartbeats 1000000 in
theorem laws_no010 {a1 a2 a3 : Option Addr} {n1 n2 n3 m1 m2 m3 : Nat} {xs ys zs : List Int} (i : Int) {w : World} (h1 : IntsAt w a1 n1 m1 xs) (h2 : IntsAt w a2 n2 m2 ys) (h3 : IntsAt w a3 n3 m3 zs) (c1 : m1 ≤ maxLen) (c2 : m2 ≤ maxLen) (c3 : m3 ≤ maxLen) (l1 : 400 < n1) (l2 : n2 ≤ 400) (l3 : 400 < n3) :
    Calls Try.prog 3 #[.slice a1 n1 m1, .slice a2 n2 m2, .slice a3 n3 m3, .int .i64 i] w fun e w' => e = .returned (.bool true) ∧ Below w.heap.size w w' := by
  go_enter Try.func3, Try.ntmps3
  go_wp2_with fail
  refine (of_any (ints_two 7 8 _) (by omega) (by unfold maxLen; omega)).mono ?_
  rintro e w0 ⟨v0, T0, rfl, hb0, hr0, _, hf0⟩
  have hs0 : Hid (sz T0 = 2) := sz_of_items hf0
  have hp0 : 1 ≤ dp T0 := dp_pos (by rw [hs0.out]; omega)
  have hB0 : Below w.heap.size w w0 := ((Below.refl _ _).alloc (Nat.le_refl _) _).trans (hb0.mono (by simp))
  clear hb0
  go_wp2_with fail
  refine (len_any hr0).mono ?_
  rintro e w' ⟨rfl, rfl⟩
  rw [hs0.out]
  go_wp2_with fail
  refine (depthOf_any hr0).mono ?_
  rintro e w' ⟨rfl, rfl⟩
  go_wp2_with fail
  refine (of_full l1 (by have := h1.le; unfold maxLen at c1; omega)).mono ?_
  rintro e w' ⟨rfl, rfl⟩
  go_wp2_with fail
  refine (of_any (h2.below hB0) l2 c2).mono ?_
  rintro e w2 ⟨v2, T2, rfl, hb, hr2, hbal2, hi2⟩
  have hB1 := below_step hB0 hb
  clear hb
  go_wp2_with fail
  refine (of_full l3 (by have := h3.le; unfold maxLen at c3; omega)).mono ?_
  rintro e w' ⟨rfl, rfl⟩
  go_wp2_with fail
  go_ret
  exact ⟨rfl, hB1⟩

set_option maxHeartbeats 1000000 in
theorem laws_no011 {a1 a2 a3 : Option Addr} {n1 n2 n3 m1 m2 m3 : Nat} {xs ys zs : List Int} (i : Int) {w : World} (h1 : IntsAt w a1 n1 m1 xs) (h2 : IntsAt w a2 n2 m2 ys) (h3 : IntsAt w a3 n3 m3 zs) (c1 : m1 ≤ maxLen) (c2 : m2 ≤ maxLen) (c3 : m3 ≤ maxLen) (l1 : 400 < n1) (l2 : n2 ≤ 400) (l3 : n3 ≤ 400) :
    Calls Try.prog 3 #[.slice a1 n1 m1, .slice a2 n2 m2, .slice a3 n3 m3, .int .i64 i] w fun e w' => e = .returned (.bool true) ∧ Below w.heap.size w w' := by
  go_enter Try.func3, Try.ntmps3
  go_wp2_with fail
  refine (of_any (ints_two 7 8 _) (by omega) (by unfold maxLen; omega)).mono ?_
  rintro e w0 ⟨v0, T0, rfl, hb0, hr0, _, hf0⟩
  have hs0 : Hid (sz T0 = 2) := sz_of_items hf0
  have hp0 : 1 ≤ dp T0 := dp_pos (by rw [hs0.out]; omega)
  have hB0 : Below w.heap.size w w0 := ((Below.refl _ _).alloc (Nat.le_refl _) _).trans (hb0.mono (by simp))
  clear hb0
  go_wp2_with fail
  refine (len_any hr0).mono ?_
  rintro e w' ⟨rfl, rfl⟩
  rw [hs0.out]
  go_wp2_with fail
  refine (depthOf_any hr0).mono ?_
  rintro e w' ⟨rfl, rfl⟩
  go_wp2_with fail
  refine (of_full l1 (by have := h1.le; unfold maxLen at c1; omega)).mono ?_
  rintro e w' ⟨rfl, rfl⟩
  go_wp2_with fail
  refine (of_any (h2.below hB0) l2 c2).mono ?_
  rintro e w2 ⟨v2, T2, rfl, hb, hr2, hbal2, hi2⟩
  have hB1 := below_step hB0 hb
  clear hb
  go_wp2_with fail
  refine (of_any (h3.below hB1) l3 c3).mono ?_
  rintro e w3 ⟨v3, T3, rfl, hb, hr3, hbal3, hi3⟩
  have hB2 := below_step hB1 hb
  replace hr2 := hr2.below hb
  clear hb
  go_wp2_with fail
  go_ret
  exact ⟨rfl, hB2⟩

set_option maxHeartbeats 1000000 in
theorem laws_no100 {a1 a2 a3 : Option Addr} {n1 n2 n3 m1 m2 m3 : Nat} {xs ys zs : List Int} (i : Int) {w : World} (h1 : IntsAt w a1 n1 m1 xs) (h2 : IntsAt w a2 n2 m2 ys) (h3 : IntsAt w a3 n3 m3 zs) (c1 : m1 ≤ maxLen) (c2 : m2 ≤ maxLen) (c3 : m3 ≤ maxLen) (l1 : n1 ≤ 400) (l2 : 400 < n2) (l3 : 400 < n3) :
    Calls Try.prog 3 #[.slice a1 n1 m1, .slice a2 n2 m2, .slice a3 n3 m3, .int .i64 i] w fun e w' => e = .returned (.bool true) ∧ Below w.heap.size w w' := by
  go_enter Try.func3, Try.ntmps3
  go_wp2_with fail
  refine (of_any (ints_two 7 8 _) (by omega) (by unfold maxLen; omega)).mono ?_
  rintro e w0 ⟨v0, T0, rfl, hb0, hr0, _, hf0⟩
  have hs0 : Hid (sz T0 = 2) := sz_of_items hf0
  have hp0 : 1 ≤ dp T0 := dp_pos (by rw [hs0.out]; omega)
  have hB0 : Below w.heap.size w w0 := ((Below.refl _ _).alloc (Nat.le_refl _) _).trans (hb0.mono (by simp))
  clear hb0
  go_wp2_with fail
  refine (len_any hr0).mono ?_
  rintro e w' ⟨rfl, rfl⟩
  rw [hs0.out]
  go_wp2_with fail
  refine (depthOf_any hr0).mono ?_
  rintro e w' ⟨rfl, rfl⟩
  go_wp2_with fail
  refine (of_any (h1.below hB0) l1 c1).mono ?_
  rintro e w1 ⟨v1, T1, rfl, hb, hr1, hbal1, hi1⟩
  have hB1 := below_step hB0 hb
  clear hb
  go_wp2_with fail
  refine (of_full l2 (by have := h2.le; unfold maxLen at c2; omega)).mono ?_
  rintro e w' ⟨rfl, rfl⟩
  go_wp2_with fail
  refine (of_full l3 (by have := h3.le; unfold maxLen at c3; omega)).mono ?_
  rintro e w' ⟨rfl, rfl⟩
  go_wp2_with fail
  go_ret
  exact ⟨rfl, hB1⟩

set_option maxHeartbeats 1000000 in
theorem laws_no101 {a1 a2 a3 : Option Addr} {n1 n2 n3 m1 m2 m3 : Nat} {xs ys zs : List Int} (i : Int) {w : World} (h1 : IntsAt w a1 n1 m1 xs) (h2 : IntsAt w a2 n2 m2 ys) (h3 : IntsAt w a3 n3 m3 zs) (c1 : m1 ≤ maxLen) (c2 : m2 ≤ maxLen) (c3 : m3 ≤ maxLen) (l1 : n1 ≤ 400) (l2 : 400 < n2) (l3 : n3 ≤ 400) :
    Calls Try.prog 3 #[.slice a1 n1 m1, .slice a2 n2 m2, .slice a3 n3 m3, .int .i64 i] w fun e w' => e = .returned (.bool true) ∧ Below w.heap.size w w' := by
  go_enter Try.func3, Try.ntmps3
  go_wp2_with fail
  refine (of_any (ints_two 7 8 _) (by omega) (by unfold maxLen; omega)).mono ?_
  rintro e w0 ⟨v0, T0, rfl, hb0, hr0, _, hf0⟩
  have hs0 : Hid (sz T0 = 2) := sz_of_items hf0
  have hp0 : 1 ≤ dp T0 := dp_pos (by rw [hs0.out]; omega)
  have hB0 : Below w.heap.size w w0 := ((Below.refl _ _).alloc (Nat.le_refl _) _).trans (hb0.mono (by simp))
  clear hb0
  go_wp2_with fail
  refine (len_any hr0).mono ?_
  rintro e w' ⟨rfl, rfl⟩
  rw [hs0.out]
  go_wp2_with fail
  refine (depthOf_any hr0).mono ?_
  rintro e w' ⟨rfl, rfl⟩
  go_wp2_with fail
  refine (of_any (h1.below hB0) l1 c1).mono ?_
  rintro e w1 ⟨v1, T1, rfl, hb, hr1, hbal1, hi1⟩
  have hB1 := below_step hB0 hb
  clear hb
  go_wp2_with fail
  refine (of_full l2 (by have := h2.le; unfold maxLen at c2; omega)).mono ?_
  rintro e w' ⟨rfl, rfl⟩
  go_wp2_with fail
  refine (of_any (h3.below hB1) l3 c3).mono ?_
  rintro e w3 ⟨v3, T3, rfl, hb, hr3, hbal3, hi3⟩
  have hB2 := below_step hB1 hb
  replace hr1 := hr1.below hb
  clear hb
  go_wp2_with fail
  go_ret
  exact ⟨rfl, hB2⟩

set_option maxHeartbeats 1000000 in
theorem laws_no110 {a1 a2 a3 : Option Addr} {n1 n2 n3 m1 m2 m3 : Nat} {xs ys zs : List Int} (i : Int) {w : World} (h1 : IntsAt w a1 n1 m1 xs) (h2 : IntsAt w a2 n2 m2 ys) (h3 : IntsAt w a3 n3 m3 zs) (c1 : m1 ≤ maxLen) (c2 : m2 ≤ maxLen) (c3 : m3 ≤ maxLen) (l1 : n1 ≤ 400) (l2 : n2 ≤ 400) (l3 : 400 < n3) :
    Calls Try.prog 3 #[.slice a1 n1 m1, .slice a2 n2 m2, .slice a3 n3 m3, .int .i64 i] w fun e w' => e = .returned (.bool true) ∧ Below w.heap.size w w' := by
  go_enter Try.func3, Try.ntmps3
  go_wp2_with fail
  refine (of_any (ints_two 7 8 _) (by omega) (by unfold maxLen; omega)).mono ?_
  rintro e w0 ⟨v0, T0, rfl, hb0, hr0, _, hf0⟩
  have hs0 : Hid (sz T0 = 2) := sz_of_items hf0
  have hp0 : 1 ≤ dp T0 := dp_pos (by rw [hs0.out]; omega)
  have hB0 : Below w.heap.size w w0 := ((Below.refl _ _).alloc (Nat.le_refl _) _).trans (hb0.mono (by simp))
  clear hb0
  go_wp2_with fail
  refine (len_any hr0).mono ?_
  rintro e w' ⟨rfl, rfl⟩
  rw [hs0.out]
  go_wp2_with fail
  refine (depthOf_any hr0).mono ?_
  rintro e w' ⟨rfl, rfl⟩
  go_wp2_with fail
  refine (of_any (h1.below hB0) l1 c1).mono ?_
  rintro e w1 ⟨v1, T1, rfl, hb, hr1, hbal1, hi1⟩
  have hB1 := below_step hB0 hb
  clear hb
  go_wp2_with fail
  refine (of_any (h2.below hB1) l2 c2).mono ?_
  rintro e w2 ⟨v2, T2, rfl, hb, hr2, hbal2, hi2⟩
  have hB2 := below_step hB1 hb
  replace hr1 := hr1.below hb
  clear hb
  go_wp2_with fail
  refine (of_full l3 (by have := h3.le; unfold maxLen at c3; omega)).mono ?_
  rintro e w' ⟨rfl, rfl⟩
  go_wp2_with fail
  go_ret
  exact ⟨rfl, hB2⟩

set_option maxHeartbeats 2000000 in
theorem laws_low_nn {a1 a2 a3 : Option Addr} {n1 n2 n3 m1 m2 m3 : Nat} {xs ys zs : List Int} (i : Int) {w : World} (h1 : IntsAt w a1 n1 m1 xs) (h2 : IntsAt w a2 n2 m2 ys) (h3 : IntsAt w a3 n3 m3 zs) (c1 : m1 ≤ maxLen) (c2 : m2 ≤ maxLen) (c3 : m3 ≤ maxLen) (l1 : n1 ≤ 400) (l2 : n2 ≤ 400) (l3 : n3 ≤ 400) (hi : i < 0) (j1 : 400 < n1 + n2) (j2 : 400 < n2 + n3) :
    Calls Try.prog 3 #[.slice a1 n1 m1, .slice a2 n2 m2, .slice a3 n3 m3, .int .i64 i] w fun e w' => e = .returned (.bool true) ∧ Below w.heap.size w w' := by
  have e1 := h1.len
  have e2 := h2.len
  have e3 := h3.len
  go_enter Try.func3, Try.ntmps3
  go_wp2_with fail
  refine (of_any (ints_two 7 8 _) (by omega) (by unfold maxLen; omega)).mono ?_
  rintro e w0 ⟨v0, T0, rfl, hb0, hr0, _, hf0⟩
  have hs0 : Hid (sz T0 = 2) := sz_of_items hf0
  have hp0 : 1 ≤ dp T0 := dp_pos (by rw [hs0.out]; omega)
  have hB0 : Below w.heap.size w w0 := ((Below.refl _ _).alloc (Nat.le_refl _) _).trans (hb0.mono (by simp))
  clear hb0
  go_wp2_with fail
  refine (len_any hr0).mono ?_
  rintro e w' ⟨rfl, rfl⟩
  rw [hs0.out]
  go_wp2_with fail
  refine (depthOf_any hr0).mono ?_
  rintro e w' ⟨rfl, rfl⟩
  go_wp2_with fail
  refine (of_any (h1.below hB0) l1 c1).mono ?_
  rintro e w1 ⟨v1, T1, rfl, hb, hr1, hbal1, hi1⟩
  have hB1 := below_step hB0 hb
  clear hb
  go_wp2_with fail
  refine (of_any (h2.below hB1) l2 c2).mono ?_
  rintro e w2 ⟨v2, T2, rfl, hb, hr2, hbal2, hi2⟩
  have hB2 := below_step hB1 hb
  replace hr1 := hr1.below hb
  clear hb
  go_wp2_with fail
  refine (of_any (h3.below hB2) l3 c3).mono ?_
  rintro e w3 ⟨v3, T3, rfl, hb, hr3, hbal3, hi3⟩
  have hB3 := below_step hB2 hb
  replace hr1 := hr1.below hb
  replace hr2 := hr2.below hb
  clear hb
  go_wp2_with fail
  have hz1 : Hid (sz T1 = n1) := by rw [← e1]; exact sz_of_items hi1
  have hz2 : Hid (sz T2 = n2) := by rw [← e2]; exact sz_of_items hi2
  have hz3 : Hid (sz T3 = n3) := by rw [← e3]; exact sz_of_items hi3
  refine (split_low i hi).mono ?_
  rintro e w' ⟨rfl, rfl⟩
  go_wp2_with fail
  refine (join_full hr1 hr2 (by have := hz1.out; have := hz2.out; have := hz3.out; omega) (by have := hz1.out; have := hz2.out; have := hz3.out; omega) (by have := hz1.out; have := hz2.out; have := hz3.out; omega)).mono ?_
  rintro e w' ⟨rfl, rfl⟩
  go_wp2_with fail
  refine (join_full hr2 hr3 (by have := hz1.out; have := hz2.out; have := hz3.out; omega) (by have := hz1.out; have := hz2.out; have := hz3.out; omega) (by have := hz1.out; have := hz2.out; have := hz3.out; omega)).mono ?_
  rintro e w' ⟨rfl, rfl⟩
  go_wp2_with fail
  go_ret
  exact ⟨rfl, hB3⟩

set_option maxHeartbeats 2000000 in
theorem laws_low_ny {a1 a2 a3 : Option Addr} {n1 n2 n3 m1 m2 m3 : Nat} {xs ys zs : List Int} (i : Int) {w : World} (h1 : IntsAt w a1 n1 m1 xs) (h2 : IntsAt w a2 n2 m2 ys) (h3 : IntsAt w a3 n3 m3 zs) (c1 : m1 ≤ maxLen) (c2 : m2 ≤ maxLen) (c3 : m3 ≤ maxLen) (l1 : n1 ≤ 400) (l2 : n2 ≤ 400) (l3 : n3 ≤ 400) (hi : i < 0) (j1 : 400 < n1 + n2) (j2 : n2 + n3 ≤ 400) :
    Calls Try.prog 3 #[.slice a1 n1 m1, .slice a2 n2 m2, .slice a3 n3 m3, .int .i64 i] w fun e w' => e = .returned (.bool true) ∧ Below w.heap.size w w' := by
  have e1 := h1.len
  have e2 := h2.len
  have e3 := h3.len
  go_enter Try.func3, Try.ntmps3
  go_wp2_with fail
  refine (of_any (ints_two 7 8 _) (by omega) (by unfold maxLen; omega)).mono ?_
  rintro e w0 ⟨v0, T0, rfl, hb0, hr0, _, hf0⟩
  have hs0 : Hid (sz T0 = 2) := sz_of_items hf0
  have hp0 : 1 ≤ dp T0 := dp_pos (by rw [hs0.out]; omega)
  have hB0 : Below w.heap.size w w0 := ((Below.refl _ _).alloc (Nat.le_refl _) _).trans (hb0.mono (by simp))
  clear hb0
  go_wp2_with fail
  refine (len_any hr0).mono ?_
  rintro e w' ⟨rfl, rfl⟩
  rw [hs0.out]
  go_wp2_with fail
  refine (depthOf_any hr0).mono ?_
  rintro e w' ⟨rfl, rfl⟩
  go_wp2_with fail
  refine (of_any (h1.below hB0) l1 c1).mono ?_
  rintro e w1 ⟨v1, T1, rfl, hb, hr1, hbal1, hi1⟩
  have hB1 := below_step hB0 hb
  clear hb
  go_wp2_with fail
  refine (of_any (h2.below hB1) l2 c2).mono ?_
  rintro e w2 ⟨v2, T2, rfl, hb, hr2, hbal2, hi2⟩
  have hB2 := below_step hB1 hb
  replace hr1 := hr1.below hb
  clear hb
  go_wp2_with fail
  refine (of_any (h3.below hB2) l3 c3).mono ?_
  rintro e w3 ⟨v3, T3, rfl, hb, hr3, hbal3, hi3⟩
  have hB3 := below_step hB2 hb
  replace hr1 := hr1.below hb
  replace hr2 := hr2.below hb
  clear hb
  go_wp2_with fail
  have hz1 : Hid (sz T1 = n1) := by rw [← e1]; exact sz_of_items hi1
  have hz2 : Hid (sz T2 = n2) := by rw [← e2]; exact sz_of_items hi2
  have hz3 : Hid (sz T3 = n3) := by rw [← e3]; exact sz_of_items hi3
  refine (split_low i hi).mono ?_
  rintro e w' ⟨rfl, rfl⟩
  go_wp2_with fail
  refine (join_full hr1 hr2 (by have := hz1.out; have := hz2.out; have := hz3.out; omega) (by have := hz1.out; have := hz2.out; have := hz3.out; omega) (by have := hz1.out; have := hz2.out; have := hz3.out; omega)).mono ?_
  rintro e w' ⟨rfl, rfl⟩
  go_wp2_with fail
  refine (join_any hr2 hr3 hbal2 hbal3 (by have := hz1.out; have := hz2.out; have := hz3.out; omega)).mono ?_
  rintro e w23 ⟨v23, T23, rfl, hb, hr23, hbal23, hi23⟩
  have hB4 := below_step hB3 hb
  replace hr1 := hr1.below hb
  replace hr2 := hr2.below hb
  replace hr3 := hr3.below hb
  clear hb
  go_wp2_with fail
  go_ret
  exact ⟨rfl, hB4⟩

set_option maxHeartbeats 2000000 in
theorem laws_low_yn {a1 a2 a3 : Option Addr} {n1 n2 n3 m1 m2 m3 : Nat} {xs ys zs : List Int} (i : Int) {w : World} (h1 : IntsAt w a1 n1 m1 xs) (h2 : IntsAt w a2 n2 m2 ys) (h3 : IntsAt w a3 n3 m3 zs) (c1 : m1 ≤ maxLen) (c2 : m2 ≤ maxLen) (c3 : m3 ≤ maxLen) (l1 : n1 ≤ 400) (l2 : n2 ≤ 400) (l3 : n3 ≤ 400) (hi : i < 0) (j1 : n1 + n2 ≤ 400) (j2 : 400 < n2 + n3) :
    Calls Try.prog 3 #[.slice a1 n1 m1, .slice a2 n2 m2, .slice a3 n3 m3, .int .i64 i] w fun e w' => e = .returned (.bool true) ∧ Below w.heap.size w w' := by
  have e1 := h1.len
  have e2 := h2.len
  have e3 := h3.len
  go_enter Try.func3, Try.ntmps3
  go_wp2_with fail
  refine (of_any (ints_two 7 8 _) (by omega) (by unfold maxLen; omega)).mono ?_
  rintro e w0 ⟨v0, T0, rfl, hb0, hr0, _, hf0⟩
  have hs0 : Hid (sz T0 = 2) := sz_of_items hf0
  have hp0 : 1 ≤ dp T0 := dp_pos (by rw [hs0.out]; omega)
  have hB0 : Below w.heap.size w w0 := ((Below.refl _ _).alloc (Nat.le_refl _) _).trans (hb0.mono (by simp))
  clear hb0
  go_wp2_with fail
  refine (len_any hr0).mono ?_
  rintro e w' ⟨rfl, rfl⟩
  rw [hs0.out]
  go_wp2_with fail
  refine (depthOf_any hr0).mono ?_
  rintro e w' ⟨rfl, rfl⟩
  go_wp2_with fail
  refine (of_any (h1.below hB0) l1 c1).mono ?_
  rintro e w1 ⟨v1, T1, rfl, hb, hr1, hbal1, hi1⟩
  have hB1 := below_step hB0 hb
  clear hb
  go_wp2_with fail
  refine (of_any (h2.below hB1) l2 c2).mono ?_
  rintro e w2 ⟨v2, T2, rfl, hb, hr2, hbal2, hi2⟩
  have hB2 := below_step hB1 hb
  replace hr1 := hr1.below hb
  clear hb
  go_wp2_with fail
  refine (of_any (h3.below hB2) l3 c3).mono ?_
  rintro e w3 ⟨v3, T3, rfl, hb, hr3, hbal3, hi3⟩
  have hB3 := below_step hB2 hb
  replace hr1 := hr1.below hb
  replace hr2 := hr2.below hb
  clear hb
  go_wp2_with fail
  have hz1 : Hid (sz T1 = n1) := by rw [← e1]; exact sz_of_items hi1
  have hz2 : Hid (sz T2 = n2) := by rw [← e2]; exact sz_of_items hi2
  have hz3 : Hid (sz T3 = n3) := by rw [← e3]; exact sz_of_items hi3
  refine (split_low i hi).mono ?_
  rintro e w' ⟨rfl, rfl⟩
  go_wp2_with fail
  refine (join_any hr1 hr2 hbal1 hbal2 (by have := hz1.out; have := hz2.out; have := hz3.out; omega)).mono ?_
  rintro e w12 ⟨v12, T12, rfl, hb, hr12, hbal12, hi12⟩
  have hB4 := below_step hB3 hb
  replace hr1 := hr1.below hb
  replace hr2 := hr2.below hb
  replace hr3 := hr3.below hb
  clear hb
  go_wp2_with fail
  refine (join_full hr2 hr3 (by have := hz1.out; have := hz2.out; have := hz3.out; omega) (by have := hz1.out; have := hz2.out; have := hz3.out; omega) (by have := hz1.out; have := hz2.out; have := hz3.out; omega)).mono ?_
  rintro e w' ⟨rfl, rfl⟩
  go_wp2_with fail
  go_ret
  exact ⟨rfl, hB4⟩

set_option maxHeartbeats 2000000 in
theorem laws_low_yyn {a1 a2 a3 : Option Addr} {n1 n2 n3 m1 m2 m3 : Nat} {xs ys zs : List Int} (i : Int) {w : World} (h1 : IntsAt w a1 n1 m1 xs) (h2 : IntsAt w a2 n2 m2 ys) (h3 : IntsAt w a3 n3 m3 zs) (c1 : m1 ≤ maxLen) (c2 : m2 ≤ maxLen) (c3 : m3 ≤ maxLen) (l1 : n1 ≤ 400) (l2 : n2 ≤ 400) (l3 : n3 ≤ 400) (hi : i < 0) (j1 : n1 + n2 ≤ 400) (j2 : n2 + n3 ≤ 400) (j3 : 400 < n1 + n2 + n3) :
    Calls Try.prog 3 #[.slice a1 n1 m1, .slice a2 n2 m2, .slice a3 n3 m3, .int .i64 i] w fun e w' => e = .returned (.bool true) ∧ Below w.heap.size w w' := by
  have e1 := h1.len
  have e2 := h2.len
  have e3 := h3.len
  go_enter Try.func3, Try.ntmps3
  go_wp2_with fail
  refine (of_any (ints_two 7 8 _) (by omega) (by unfold maxLen; omega)).mono ?_
  rintro e w0 ⟨v0, T0, rfl, hb0, hr0, _, hf0⟩
  have hs0 : Hid (sz T0 = 2) := sz_of_items hf0
  have hp0 : 1 ≤ dp T0 := dp_pos (by rw [hs0.out]; omega)
  have hB0 : Below w.heap.size w w0 := ((Below.refl _ _).alloc (Nat.le_refl _) _).trans (hb0.mono (by simp))
  clear hb0
  go_wp2_with fail
  refine (len_any hr0).mono ?_
  rintro e w' ⟨rfl, rfl⟩
  rw [hs0.out]
  go_wp2_with fail
  refine (depthOf_any hr0).mono ?_
  rintro e w' ⟨rfl, rfl⟩
  go_wp2_with fail
  refine (of_any (h1.below hB0) l1 c1).mono ?_
  rintro e w1 ⟨v1, T1, rfl, hb, hr1, hbal1, hi1⟩
  have hB1 := below_step hB0 hb
  clear hb
  go_wp2_with fail
  refine (of_any (h2.below hB1) l2 c2).mono ?_
  rintro e w2 ⟨v2, T2, rfl, hb, hr2, hbal2, hi2⟩
  have hB2 := below_step hB1 hb
  replace hr1 := hr1.below hb
  clear hb
  go_wp2_with fail
  refine (of_any (h3.below hB2) l3 c3).mono ?_
  rintro e w3 ⟨v3, T3, rfl, hb, hr3, hbal3, hi3⟩
  have hB3 := below_step hB2 hb
  replace hr1 := hr1.below hb
  replace hr2 := hr2.below hb
  clear hb
  go_wp2_with fail
  have hz1 : Hid (sz T1 = n1) := by rw [← e1]; exact sz_of_items hi1
  have hz2 : Hid (sz T2 = n2) := by rw [← e2]; exact sz_of_items hi2
  have hz3 : Hid (sz T3 = n3) := by rw [← e3]; exact sz_of_items hi3
  refine (split_low i hi).mono ?_
  rintro e w' ⟨rfl, rfl⟩
  go_wp2_with fail
  refine (join_any hr1 hr2 hbal1 hbal2 (by have := hz1.out; have := hz2.out; have := hz3.out; omega)).mono ?_
  rintro e w12 ⟨v12, T12, rfl, hb, hr12, hbal12, hi12⟩
  have hB4 := below_step hB3 hb
  replace hr1 := hr1.below hb
  replace hr2 := hr2.below hb
  replace hr3 := hr3.below hb
  clear hb
  go_wp2_with fail
  refine (join_any hr2 hr3 hbal2 hbal3 (by have := hz1.out; have := hz2.out; have := hz3.out; omega)).mono ?_
  rintro e w23 ⟨v23, T23, rfl, hb, hr23, hbal23, hi23⟩
  have hB5 := below_step hB4 hb
  replace hr1 := hr1.below hb
  replace hr2 := hr2.below hb
  replace hr3 := hr3.below hb
  replace hr12 := hr12.below hb
  clear hb
  go_wp2_with fail
  have hz12 : Hid (sz T12 = n1 + n2) := by show sz T12 = n1 + n2; rw [sz_of_items hi12, List.length_append, items_len, items_len, hz1.out, hz2.out]
  have hz23 : Hid (sz T23 = n2 + n3) := by show sz T23 = n2 + n3; rw [sz_of_items hi23, List.length_append, items_len, items_len, hz2.out, hz3.out]
  refine (join_full hr12 hr3 (by have := hz1.out; have := hz3.out; have := hz12.out; have := hz23.out; omega) (by have := hz1.out; have := hz3.out; have := hz12.out; have := hz23.out; omega) (by have := hz1.out; have := hz3.out; have := hz12.out; have := hz23.out; omega)).mono ?_
  rintro e w' ⟨rfl, rfl⟩
  go_wp2_with fail
  refine (join_full hr1 hr23 (by have := hz1.out; have := hz3.out; have := hz12.out; have := hz23.out; omega) (by have := hz1.out; have := hz3.out; have := hz12.out; have := hz23.out; omega) (by have := hz1.out; have := hz3.out; have := hz12.out; have := hz23.out; omega)).mono ?_
  rintro e w' ⟨rfl, rfl⟩
  go_wp2_with fail
  refine (list_any (RowAt.nil_ _) (by simp only [sz]; omega)).mono ?_
  rintro e wP ⟨aP, capP, rfl, hb, hP⟩
  have hB6 := below_step hB5 hb
  replace hr1 := hr1.below hb
  replace hr2 := hr2.below hb
  replace hr3 := hr3.below hb
  replace hr12 := hr12.below hb
  replace hr23 := hr23.below hb
  clear hb
  go_wp2_with fail
  refine (list_any (RowAt.nil_ _) (by simp only [sz]; omega)).mono ?_
  rintro e wQ ⟨aQ, capQ, rfl, hb, hQ⟩
  replace hP := hP.below hb
  have hB7 := below_step hB6 hb
  replace hr1 := hr1.below hb
  replace hr2 := hr2.below hb
  replace hr3 := hr3.below hb
  replace hr12 := hr12.below hb
  replace hr23 := hr23.below hb
  clear hb
  go_wp2_with fail
  refine (ints_any hP hQ (by simp only [sz]; omega)).mono ?_
  rintro e wR ⟨rfl, hb⟩
  have hB8 := below_step hB7 hb
  replace hr1 := hr1.below hb
  replace hr2 := hr2.below hb
  replace hr3 := hr3.below hb
  replace hr12 := hr12.below hb
  replace hr23 := hr23.below hb
  clear hb
  go_wp2_with fail
  go_quiet (fail)
  go_wp2_with fail
  go_ret
  exact ⟨rfl, below_step hB8 (below_drewN rfl)⟩

set_option maxHeartbeats 2000000 in
theorem laws_low_yyy {a1 a2 a3 : Option Addr} {n1 n2 n3 m1 m2 m3 : Nat} {xs ys zs : List Int} (i : Int) {w : World} (h1 : IntsAt w a1 n1 m1 xs) (h2 : IntsAt w a2 n2 m2 ys) (h3 : IntsAt w a3 n3 m3 zs) (c1 : m1 ≤ maxLen) (c2 : m2 ≤ maxLen) (c3 : m3 ≤ maxLen) (l1 : n1 ≤ 400) (l2 : n2 ≤ 400) (l3 : n3 ≤ 400) (hi : i < 0) (j1 : n1 + n2 ≤ 400) (j2 : n2 + n3 ≤ 400) (j3 : n1 + n2 + n3 ≤ 400) :
    Calls Try.prog 3 #[.slice a1 n1 m1, .slice a2 n2 m2, .slice a3 n3 m3, .int .i64 i] w fun e w' => e = .returned (.bool true) ∧ Below w.heap.size w w' := by
  have e1 := h1.len
  have e2 := h2.len
  have e3 := h3.len
  go_enter Try.func3, Try.ntmps3
  go_wp2_with fail
  refine (of_any (ints_two 7 8 _) (by omega) (by unfold maxLen; omega)).mono ?_
  rintro e w0 ⟨v0, T0, rfl, hb0, hr0, _, hf0⟩
  have hs0 : Hid (sz T0 = 2) := sz_of_items hf0
  have hp0 : 1 ≤ dp T0 := dp_pos (by rw [hs0.out]; omega)
  have hB0 : Below w.heap.size w w0 := ((Below.refl _ _).alloc (Nat.le_refl _) _).trans (hb0.mono (by simp))
  clear hb0
  go_wp2_with fail
  refine (len_any hr0).mono ?_
  rintro e w' ⟨rfl, rfl⟩
  rw [hs0.out]
  go_wp2_with fail
  refine (depthOf_any hr0).mono ?_
  rintro e w' ⟨rfl, rfl⟩
  go_wp2_with fail
  refine (of_any (h1.below hB0) l1 c1).mono ?_
  rintro e w1 ⟨v1, T1, rfl, hb, hr1, hbal1, hi1⟩
  have hB1 := below_step hB0 hb
  clear hb
  go_wp2_with fail
  refine (of_any (h2.below hB1) l2 c2).mono ?_
  rintro e w2 ⟨v2, T2, rfl, hb, hr2, hbal2, hi2⟩
  have hB2 := below_step hB1 hb
  replace hr1 := hr1.below hb
  clear hb
  go_wp2_with fail
  refine (of_any (h3.below hB2) l3 c3).mono ?_
  rintro e w3 ⟨v3, T3, rfl, hb, hr3, hbal3, hi3⟩
  have hB3 := below_step hB2 hb
  replace hr1 := hr1.below hb
  replace hr2 := hr2.below hb
  clear hb
  go_wp2_with fail
  have hz1 : Hid (sz T1 = n1) := by rw [← e1]; exact sz_of_items hi1
  have hz2 : Hid (sz T2 = n2) := by rw [← e2]; exact sz_of_items hi2
  have hz3 : Hid (sz T3 = n3) := by rw [← e3]; exact sz_of_items hi3
  refine (split_low i hi).mono ?_
  rintro e w' ⟨rfl, rfl⟩
  go_wp2_with fail
  refine (join_any hr1 hr2 hbal1 hbal2 (by have := hz1.out; have := hz2.out; have := hz3.out; omega)).mono ?_
  rintro e w12 ⟨v12, T12, rfl, hb, hr12, hbal12, hi12⟩
  have hB4 := below_step hB3 hb
  replace hr1 := hr1.below hb
  replace hr2 := hr2.below hb
  replace hr3 := hr3.below hb
  clear hb
  go_wp2_with fail
  refine (join_any hr2 hr3 hbal2 hbal3 (by have := hz1.out; have := hz2.out; have := hz3.out; omega)).mono ?_
  rintro e w23 ⟨v23, T23, rfl, hb, hr23, hbal23, hi23⟩
  have hB5 := below_step hB4 hb
  replace hr1 := hr1.below hb
  replace hr2 := hr2.below hb
  replace hr3 := hr3.below hb
  replace hr12 := hr12.below hb
  clear hb
  go_wp2_with fail
  have hz12 : Hid (sz T12 = n1 + n2) := by show sz T12 = n1 + n2; rw [sz_of_items hi12, List.length_append, items_len, items_len, hz1.out, hz2.out]
  have hz23 : Hid (sz T23 = n2 + n3) := by show sz T23 = n2 + n3; rw [sz_of_items hi23, List.length_append, items_len, items_len, hz2.out, hz3.out]
  refine (join_any hr12 hr3 hbal12 hbal3 (by have := hz1.out; have := hz3.out; have := hz12.out; have := hz23.out; omega)).mono ?_
  rintro e wP ⟨vP, TP, rfl, hb, hrP, hbalP, hiP⟩
  have hB6 := below_step hB5 hb
  replace hr1 := hr1.below hb
  replace hr2 := hr2.below hb
  replace hr3 := hr3.below hb
  replace hr12 := hr12.below hb
  replace hr23 := hr23.below hb
  clear hb
  go_wp2_with fail
  refine (join_any hr1 hr23 hbal1 hbal23 (by have := hz1.out; have := hz3.out; have := hz12.out; have := hz23.out; omega)).mono ?_
  rintro e wQ ⟨vQ, TQ, rfl, hb, hrQ, hbalQ, hiQ⟩
  have hB7 := below_step hB6 hb
  replace hr1 := hr1.below hb
  replace hr2 := hr2.below hb
  replace hr3 := hr3.below hb
  replace hr12 := hr12.below hb
  replace hr23 := hr23.below hb
  replace hrP := hrP.below hb
  clear hb
  go_wp2_with fail
  have hPQ : Hid (items TQ = items TP) := by show items TQ = items TP; rw [hiP, hiQ, hi12, hi23, List.append_assoc]
  have hzP : Hid (sz TP = n1 + n2 + n3) := by show sz TP = n1 + n2 + n3; rw [sz_of_items hiP, List.length_append, items_len, items_len, hz12.out, hz3.out]
  have hzQ : Hid (sz TQ = n1 + n2 + n3) := by rw [← items_len, hPQ.out, items_len]; exact hzP.out
  refine (list_any hrP (by rw [hzP.out]; omega)).mono ?_
  rintro e wP ⟨aP, capP, rfl, hb, hP⟩
  have hB8 := below_step hB7 hb
  replace hr1 := hr1.below hb
  replace hr2 := hr2.below hb
  replace hr3 := hr3.below hb
  replace hr12 := hr12.below hb
  replace hr23 := hr23.below hb
  replace hrP := hrP.below hb
  replace hrQ := hrQ.below hb
  clear hb
  go_wp2_with fail
  refine (list_any hrQ (by rw [hzQ.out]; omega)).mono ?_
  rintro e wQ ⟨aQ, capQ, rfl, hb, hQ⟩
  replace hP := hP.below hb
  rw [hPQ.out] at hQ
  have hB9 := below_step hB8 hb
  replace hr1 := hr1.below hb
  replace hr2 := hr2.below hb
  replace hr3 := hr3.below hb
  replace hr12 := hr12.below hb
  replace hr23 := hr23.below hb
  replace hrP := hrP.below hb
  replace hrQ := hrQ.below hb
  clear hb
  go_wp2_with fail
  refine (ints_any hP hQ (by rw [hzP.out]; omega)).mono ?_
  rintro e wR ⟨rfl, hb⟩
  have hB10 := below_step hB9 hb
  replace hr1 := hr1.below hb
  replace hr2 := hr2.below hb
  replace hr3 := hr3.below hb
  replace hr12 := hr12.below hb
  replace hr23 := hr23.below hb
  replace hrP := hrP.below hb
  replace hrQ := hrQ.below hb
  clear hb
  go_wp2_with fail
  go_quiet (fail)
  go_wp2_with fail
  go_ret
  exact ⟨rfl, below_step hB10 (below_drewN rfl)⟩

set_option maxHeartbeats 2000000 in
theorem laws_high_nn {a1 a2 a3 : Option Addr} {n1 n2 n3 m1 m2 m3 : Nat} {xs ys zs : List Int} (i : Int) {w : World} (h1 : IntsAt w a1 n1 m1 xs) (h2 : IntsAt w a2 n2 m2 ys) (h3 : IntsAt w a3 n3 m3 zs) (c1 : m1 ≤ maxLen) (c2 : m2 ≤ maxLen) (c3 : m3 ≤ maxLen) (l1 : n1 ≤ 400) (l2 : n2 ≤ 400) (l3 : n3 ≤ 400) (hi0 : 0 ≤ i) (hi : n1 < i) (j1 : 400 < n1 + n2) (j2 : 400 < n2 + n3) :
    Calls Try.prog 3 #[.slice a1 n1 m1, .slice a2 n2 m2, .slice a3 n3 m3, .int .i64 i] w fun e w' => e = .returned (.bool true) ∧ Below w.heap.size w w' := by
  have e1 := h1.len
  have e2 := h2.len
  have e3 := h3.len
  go_enter Try.func3, Try.ntmps3
  go_wp2_with fail
  refine (of_any (ints_two 7 8 _) (by omega) (by unfold maxLen; omega)).mono ?_
  rintro e w0 ⟨v0, T0, rfl, hb0, hr0, _, hf0⟩
  have hs0 : Hid (sz T0 = 2) := sz_of_items hf0
  have hp0 : 1 ≤ dp T0 := dp_pos (by rw [hs0.out]; omega)
  have hB0 : Below w.heap.size w w0 := ((Below.refl _ _).alloc (Nat.le_refl _) _).trans (hb0.mono (by simp))
  clear hb0
  go_wp2_with fail
  refine (len_any hr0).mono ?_
  rintro e w' ⟨rfl, rfl⟩
  rw [hs0.out]
  go_wp2_with fail
  refine (depthOf_any hr0).mono ?_
  rintro e w' ⟨rfl, rfl⟩
  go_wp2_with fail
  refine (of_any (h1.below hB0) l1 c1).mono ?_
  rintro e w1 ⟨v1, T1, rfl, hb, hr1, hbal1, hi1⟩
  have hB1 := below_step hB0 hb
  clear hb
  go_wp2_with fail
  refine (of_any (h2.below hB1) l2 c2).mono ?_
  rintro e w2 ⟨v2, T2, rfl, hb, hr2, hbal2, hi2⟩
  have hB2 := below_step hB1 hb
  replace hr1 := hr1.below hb
  clear hb
  go_wp2_with fail
  refine (of_any (h3.below hB2) l3 c3).mono ?_
  rintro e w3 ⟨v3, T3, rfl, hb, hr3, hbal3, hi3⟩
  have hB3 := below_step hB2 hb
  replace hr1 := hr1.below hb
  replace hr2 := hr2.below hb
  clear hb
  go_wp2_with fail
  have hz1 : Hid (sz T1 = n1) := by rw [← e1]; exact sz_of_items hi1
  have hz2 : Hid (sz T2 = n2) := by rw [← e2]; exact sz_of_items hi2
  have hz3 : Hid (sz T3 = n3) := by rw [← e3]; exact sz_of_items hi3
  refine (split_high hr1 i hi0 (by rw [hz1.out]; exact hi)).mono ?_
  rintro e w' ⟨rfl, rfl⟩
  go_wp2_with fail
  refine (join_full hr1 hr2 (by have := hz1.out; have := hz2.out; have := hz3.out; omega) (by have := hz1.out; have := hz2.out; have := hz3.out; omega) (by have := hz1.out; have := hz2.out; have := hz3.out; omega)).mono ?_
  rintro e w' ⟨rfl, rfl⟩
  go_wp2_with fail
  refine (join_full hr2 hr3 (by have := hz1.out; have := hz2.out; have := hz3.out; omega) (by have := hz1.out; have := hz2.out; have := hz3.out; omega) (by have := hz1.out; have := hz2.out; have := hz3.out; omega)).mono ?_
  rintro e w' ⟨rfl, rfl⟩
  go_wp2_with fail
  go_ret
  exact ⟨rfl, hB3⟩

set_option maxHeartbeats 2000000 in
theorem laws_high_ny {a1 a2 a3 : Option Addr} {n1 n2 n3 m1 m2 m3 : Nat} {xs ys zs : List Int} (i : Int) {w : World} (h1 : IntsAt w a1 n1 m1 xs) (h2 : IntsAt w a2 n2 m2 ys) (h3 : IntsAt w a3 n3 m3 zs) (c1 : m1 ≤ maxLen) (c2 : m2 ≤ maxLen) (c3 : m3 ≤ maxLen) (l1 : n1 ≤ 400) (l2 : n2 ≤ 400) (l3 : n3 ≤ 400) (hi0 : 0 ≤ i) (hi : n1 < i) (j1 : 400 < n1 + n2) (j2 : n2 + n3 ≤ 400) :
    Calls Try.prog 3 #[.slice a1 n1 m1, .slice a2 n2 m2, .slice a3 n3 m3, .int .i64 i] w fun e w' => e = .returned (.bool true) ∧ Below w.heap.size w w' := by
  have e1 := h1.len
  have e2 := h2.len
  have e3 := h3.len
  go_enter Try.func3, Try.ntmps3
  go_wp2_with fail
  refine (of_any (ints_two 7 8 _) (by omega) (by unfold maxLen; omega)).mono ?_
  rintro e w0 ⟨v0, T0, rfl, hb0, hr0, _, hf0⟩
  have hs0 : Hid (sz T0 = 2) := sz_of_items hf0
  have hp0 : 1 ≤ dp T0 := dp_pos (by rw [hs0.out]; omega)
  have hB0 : Below w.heap.size w w0 := ((Below.refl _ _).alloc (Nat.le_refl _) _).trans (hb0.mono (by simp))
  clear hb0
  go_wp2_with fail
  refine (len_any hr0).mono ?_
  rintro e w' ⟨rfl, rfl⟩
  rw [hs0.out]
  go_wp2_with fail
  refine (depthOf_any hr0).mono ?_
  rintro e w' ⟨rfl, rfl⟩
  go_wp2_with fail
  refine (of_any (h1.below hB0) l1 c1).mono ?_
  rintro e w1 ⟨v1, T1, rfl, hb, hr1, hbal1, hi1⟩
  have hB1 := below_step hB0 hb
  clear hb
  go_wp2_with fail
  refine (of_any (h2.below hB1) l2 c2).mono ?_
  rintro e w2 ⟨v2, T2, rfl, hb, hr2, hbal2, hi2⟩
  have hB2 := below_step hB1 hb
  replace hr1 := hr1.below hb
  clear hb
  go_wp2_with fail
  refine (of_any (h3.below hB2) l3 c3).mono ?_
  rintro e w3 ⟨v3, T3, rfl, hb, hr3, hbal3, hi3⟩
  have hB3 := below_step hB2 hb
  replace hr1 := hr1.below hb
  replace hr2 := hr2.below hb
  clear hb
  go_wp2_with fail
  have hz1 : Hid (sz T1 = n1) := by rw [← e1]; exact sz_of_items hi1
  have hz2 : Hid (sz T2 = n2) := by rw [← e2]; exact sz_of_items hi2
  have hz3 : Hid (sz T3 = n3) := by rw [← e3]; exact sz_of_items hi3
  refine (split_high hr1 i hi0 (by rw [hz1.out]; exact hi)).mono ?_
  rintro e w' ⟨rfl, rfl⟩
  go_wp2_with fail
  refine (join_full hr1 hr2 (by have := hz1.out; have := hz2.out; have := hz3.out; omega) (by have := hz1.out; have := hz2.out; have := hz3.out; omega) (by have := hz1.out; have := hz2.out; have := hz3.out; omega)).mono ?_
  rintro e w' ⟨rfl, rfl⟩
  go_wp2_with fail
  refine (join_any hr2 hr3 hbal2 hbal3 (by have := hz1.out; have := hz2.out; have := hz3.out; omega)).mono ?_
  rintro e w23 ⟨v23, T23, rfl, hb, hr23, hbal23, hi23⟩
  have hB4 := below_step hB3 hb
  replace hr1 := hr1.below hb
  replace hr2 := hr2.below hb
  replace hr3 := hr3.below hb
  clear hb
  go_wp2_with fail
  go_ret
  exact ⟨rfl, hB4⟩

set_option maxHeartbeats 2000000 in
theorem laws_high_yn {a1 a2 a3 : Option Addr} {n1 n2 n3 m1 m2 m3 : Nat} {xs ys zs : List Int} (i : Int) {w : World} (h1 : IntsAt w a1 n1 m1 xs) (h2 : IntsAt w a2 n2 m2 ys) (h3 : IntsAt w a3 n3 m3 zs) (c1 : m1 ≤ maxLen) (c2 : m2 ≤ maxLen) (c3 : m3 ≤ maxLen) (l1 : n1 ≤ 400) (l2 : n2 ≤ 400) (l3 : n3 ≤ 400) (hi0 : 0 ≤ i) (hi : n1 < i) (j1 : n1 + n2 ≤ 400) (j2 : 400 < n2 + n3) :
    Calls Try.prog 3 #[.slice a1 n1 m1, .slice a2 n2 m2, .slice a3 n3 m3, .int .i64 i] w fun e w' => e = .returned (.bool true) ∧ Below w.heap.size w w' := by
  have e1 := h1.len
  have e2 := h2.len
  have e3 := h3.len
  go_enter Try.func3, Try.ntmps3
  go_wp2_with fail
  refine (of_any (ints_two 7 8 _) (by omega) (by unfold maxLen; omega)).mono ?_
  rintro e w0 ⟨v0, T0, rfl, hb0, hr0, _, hf0⟩
  have hs0 : Hid (sz T0 = 2) := sz_of_items hf0
  have hp0 : 1 ≤ dp T0 := dp_pos (by rw [hs0.out]; omega)
  have hB0 : Below w.heap.size w w0 := ((Below.refl _ _).alloc (Nat.le_refl _) _).trans (hb0.mono (by simp))
  clear hb0
  go_wp2_with fail
  refine (len_any hr0).mono ?_
  rintro e w' ⟨rfl, rfl⟩
  rw [hs0.out]
  go_wp2_with fail
  refine (depthOf_any hr0).mono ?_
  rintro e w' ⟨rfl, rfl⟩
  go_wp2_with fail
  refine (of_any (h1.below hB0) l1 c1).mono ?_
  rintro e w1 ⟨v1, T1, rfl, hb, hr1, hbal1, hi1⟩
  have hB1 := below_step hB0 hb
  clear hb
  go_wp2_with fail
  refine (of_any (h2.below hB1) l2 c2).mono ?_
  rintro e w2 ⟨v2, T2, rfl, hb, hr2, hbal2, hi2⟩
  have hB2 := below_step hB1 hb
  replace hr1 := hr1.below hb
  clear hb
  go_wp2_with fail
  refine (of_any (h3.below hB2) l3 c3).mono ?_
  rintro e w3 ⟨v3, T3, rfl, hb, hr3, hbal3, hi3⟩
  have hB3 := below_step hB2 hb
  replace hr1 := hr1.below hb
  replace hr2 := hr2.below hb
  clear hb
  go_wp2_with fail
  have hz1 : Hid (sz T1 = n1) := by rw [← e1]; exact sz_of_items hi1
  have hz2 : Hid (sz T2 = n2) := by rw [← e2]; exact sz_of_items hi2
  have hz3 : Hid (sz T3 = n3) := by rw [← e3]; exact sz_of_items hi3
  refine (split_high hr1 i hi0 (by rw [hz1.out]; exact hi)).mono ?_
  rintro e w' ⟨rfl, rfl⟩
  go_wp2_with fail
  refine (join_any hr1 hr2 hbal1 hbal2 (by have := hz1.out; have := hz2.out; have := hz3.out; omega)).mono ?_
  rintro e w12 ⟨v12, T12, rfl, hb, hr12, hbal12, hi12⟩
  have hB4 := below_step hB3 hb
  replace hr1 := hr1.below hb
  replace hr2 := hr2.below hb
  replace hr3 := hr3.below hb
  clear hb
  go_wp2_with fail
  refine (join_full hr2 hr3 (by have := hz1.out; have := hz2.out; have := hz3.out; omega) (by have := hz1.out; have := hz2.out; have := hz3.out; omega) (by have := hz1.out; have := hz2.out; have := hz3.out; omega)).mono ?_
  rintro e w' ⟨rfl, rfl⟩
  go_wp2_with fail
  go_ret
  exact ⟨rfl, hB4⟩

set_option maxHeartbeats 2000000 in
theorem laws_high_yyn {a1 a2 a3 : Option Addr} {n1 n2 n3 m1 m2 m3 : Nat} {xs ys zs : List Int} (i : Int) {w : World} (h1 : IntsAt w a1 n1 m1 xs) (h2 : IntsAt w a2 n2 m2 ys) (h3 : IntsAt w a3 n3 m3 zs) (c1 : m1 ≤ maxLen) (c2 : m2 ≤ maxLen) (c3 : m3 ≤ maxLen) (l1 : n1 ≤ 400) (l2 : n2 ≤ 400) (l3 : n3 ≤ 400) (hi0 : 0 ≤ i) (hi : n1 < i) (j1 : n1 + n2 ≤ 400) (j2 : n2 + n3 ≤ 400) (j3 : 400 < n1 + n2 + n3) :
    Calls Try.prog 3 #[.slice a1 n1 m1, .slice a2 n2 m2, .slice a3 n3 m3, .int .i64 i] w fun e w' => e = .returned (.bool true) ∧ Below w.heap.size w w' := by
  have e1 := h1.len
  have e2 := h2.len
  have e3 := h3.len
  go_enter Try.func3, Try.ntmps3
  go_wp2_with fail
  refine (of_any (ints_two 7 8 _) (by omega) (by unfold maxLen; omega)).mono ?_
  rintro e w0 ⟨v0, T0, rfl, hb0, hr0, _, hf0⟩
  have hs0 : Hid (sz T0 = 2) := sz_of_items hf0
  have hp0 : 1 ≤ dp T0 := dp_pos (by rw [hs0.out]; omega)
  have hB0 : Below w.heap.size w w0 := ((Below.refl _ _).alloc (Nat.le_refl _) _).trans (hb0.mono (by simp))
  clear hb0
  go_wp2_with fail
  refine (len_any hr0).mono ?_
  rintro e w' ⟨rfl, rfl⟩
  rw [hs0.out]
  go_wp2_with fail
  refine (depthOf_any hr0).mono ?_
  rintro e w' ⟨rfl, rfl⟩
  go_wp2_with fail
  refine (of_any (h1.below hB0) l1 c1).mono ?_
  rintro e w1 ⟨v1, T1, rfl, hb, hr1, hbal1, hi1⟩
  have hB1 := below_step hB0 hb
  clear hb
  go_wp2_with fail
  refine (of_any (h2.below hB1) l2 c2).mono ?_
  rintro e w2 ⟨v2, T2, rfl, hb, hr2, hbal2, hi2⟩
  have hB2 := below_step hB1 hb
  replace hr1 := hr1.below hb
  clear hb
  go_wp2_with fail
  refine (of_any (h3.below hB2) l3 c3).mono ?_
  rintro e w3 ⟨v3, T3, rfl, hb, hr3, hbal3, hi3⟩
  have hB3 := below_step hB2 hb
  replace hr1 := hr1.below hb
  replace hr2 := hr2.below hb
  clear hb
  go_wp2_with fail
  have hz1 : Hid (sz T1 = n1) := by rw [← e1]; exact sz_of_items hi1
  have hz2 : Hid (sz T2 = n2) := by rw [← e2]; exact sz_of_items hi2
  have hz3 : Hid (sz T3 = n3) := by rw [← e3]; exact sz_of_items hi3
  refine (split_high hr1 i hi0 (by rw [hz1.out]; exact hi)).mono ?_
  rintro e w' ⟨rfl, rfl⟩
  go_wp2_with fail
  refine (join_any hr1 hr2 hbal1 hbal2 (by have := hz1.out; have := hz2.out; have := hz3.out; omega)).mono ?_
  rintro e w12 ⟨v12, T12, rfl, hb, hr12, hbal12, hi12⟩
  have hB4 := below_step hB3 hb
  replace hr1 := hr1.below hb
  replace hr2 := hr2.below hb
  replace hr3 := hr3.below hb
  clear hb
  go_wp2_with fail
  refine (join_any hr2 hr3 hbal2 hbal3 (by have := hz1.out; have := hz2.out; have := hz3.out; omega)).mono ?_
  rintro e w23 ⟨v23, T23, rfl, hb, hr23, hbal23, hi23⟩
  have hB5 := below_step hB4 hb
  replace hr1 := hr1.below hb
  replace hr2 := hr2.below hb
  replace hr3 := hr3.below hb
  replace hr12 := hr12.below hb
  clear hb
  go_wp2_with fail
  have hz12 : Hid (sz T12 = n1 + n2) := by show sz T12 = n1 + n2; rw [sz_of_items hi12, List.length_append, items_len, items_len, hz1.out, hz2.out]
  have hz23 : Hid (sz T23 = n2 + n3) := by show sz T23 = n2 + n3; rw [sz_of_items hi23, List.length_append, items_len, items_len, hz2.out, hz3.out]
  refine (join_full hr12 hr3 (by have := hz1.out; have := hz3.out; have := hz12.out; have := hz23.out; omega) (by have := hz1.out; have := hz3.out; have := hz12.out; have := hz23.out; omega) (by have := hz1.out; have := hz3.out; have := hz12.out; have := hz23.out; omega)).mono ?_
  rintro e w' ⟨rfl, rfl⟩
  go_wp2_with fail
  refine (join_full hr1 hr23 (by have := hz1.out; have := hz3.out; have := hz12.out; have := hz23.out; omega) (by have := hz1.out; have := hz3.out; have := hz12.out; have := hz23.out; omega) (by have := hz1.out; have := hz3.out; have := hz12.out; have := hz23.out; omega)).mono ?_
  rintro e w' ⟨rfl, rfl⟩
  go_wp2_with fail
  refine (list_any (RowAt.nil_ _) (by simp only [sz]; omega)).mono ?_
  rintro e wP ⟨aP, capP, rfl, hb, hP⟩
  have hB6 := below_step hB5 hb
  replace hr1 := hr1.below hb
  replace hr2 := hr2.below hb
  replace hr3 := hr3.below hb
  replace hr12 := hr12.below hb
  replace hr23 := hr23.below hb
  clear hb
  go_wp2_with fail
  refine (list_any (RowAt.nil_ _) (by simp only [sz]; omega)).mono ?_
  rintro e wQ ⟨aQ, capQ, rfl, hb, hQ⟩
  replace hP := hP.below hb
  have hB7 := below_step hB6 hb
  replace hr1 := hr1.below hb
  replace hr2 := hr2.below hb
  replace hr3 := hr3.below hb
  replace hr12 := hr12.below hb
  replace hr23 := hr23.below hb
  clear hb
  go_wp2_with fail
  refine (ints_any hP hQ (by simp only [sz]; omega)).mono ?_
  rintro e wR ⟨rfl, hb⟩
  have hB8 := below_step hB7 hb
  replace hr1 := hr1.below hb
  replace hr2 := hr2.below hb
  replace hr3 := hr3.below hb
  replace hr12 := hr12.below hb
  replace hr23 := hr23.below hb
  clear hb
  go_wp2_with fail
  go_quiet (fail)
  go_wp2_with fail
  go_ret
  exact ⟨rfl, below_step hB8 (below_drewN rfl)⟩

set_option maxHeartbeats 2000000 in
theorem laws_high_yyy {a1 a2 a3 : Option Addr} {n1 n2 n3 m1 m2 m3 : Nat} {xs ys zs : List Int} (i : Int) {w : World} (h1 : IntsAt w a1 n1 m1 xs) (h2 : IntsAt w a2 n2 m2 ys) (h3 : IntsAt w a3 n3 m3 zs) (c1 : m1 ≤ maxLen) (c2 : m2 ≤ maxLen) (c3 : m3 ≤ maxLen) (l1 : n1 ≤ 400) (l2 : n2 ≤ 400) (l3 : n3 ≤ 400) (hi0 : 0 ≤ i) (hi : n1 < i) (j1 : n1 + n2 ≤ 400) (j2 : n2 + n3 ≤ 400) (j3 : n1 + n2 + n3 ≤ 400) :
    Calls Try.prog 3 #[.slice a1 n1 m1, .slice a2 n2 m2, .slice a3 n3 m3, .int .i64 i] w fun e w' => e = .returned (.bool true) ∧ Below w.heap.size w w' := by
  have e1 := h1.len
  have e2 := h2.len
  have e3 := h3.len
  go_enter Try.func3, Try.ntmps3
  go_wp2_with fail
  refine (of_any (ints_two 7 8 _) (by omega) (by unfold maxLen; omega)).mono ?_
  rintro e w0 ⟨v0, T0, rfl, hb0, hr0, _, hf0⟩
  have hs0 : Hid (sz T0 = 2) := sz_of_items hf0
  have hp0 : 1 ≤ dp T0 := dp_pos (by rw [hs0.out]; omega)
  have hB0 : Below w.heap.size w w0 := ((Below.refl _ _).alloc (Nat.le_refl _) _).trans (hb0.mono (by simp))
  clear hb0
  go_wp2_with fail
  refine (len_any hr0).mono ?_
  rintro e w' ⟨rfl, rfl⟩
  rw [hs0.out]
  go_wp2_with fail
  refine (depthOf_any hr0).mono ?_
  rintro e w' ⟨rfl, rfl⟩
  go_wp2_with fail
  refine (of_any (h1.below hB0) l1 c1).mono ?_
  rintro e w1 ⟨v1, T1, rfl, hb, hr1, hbal1, hi1⟩
  have hB1 := below_step hB0 hb
  clear hb
  go_wp2_with fail
  refine (of_any (h2.below hB1) l2 c2).mono ?_
  rintro e w2 ⟨v2, T2, rfl, hb, hr2, hbal2, hi2⟩
  have hB2 := below_step hB1 hb
  replace hr1 := hr1.below hb
  clear hb
  go_wp2_with fail
  refine (of_any (h3.below hB2) l3 c3).mono ?_
  rintro e w3 ⟨v3, T3, rfl, hb, hr3, hbal3, hi3⟩
  have hB3 := below_step hB2 hb
  replace hr1 := hr1.below hb
  replace hr2 := hr2.below hb
  clear hb
  go_wp2_with fail
  have hz1 : Hid (sz T1 = n1) := by rw [← e1]; exact sz_of_items hi1
  have hz2 : Hid (sz T2 = n2) := by rw [← e2]; exact sz_of_items hi2
  have hz3 : Hid (sz T3 = n3) := by rw [← e3]; exact sz_of_items hi3
  refine (split_high hr1 i hi0 (by rw [hz1.out]; exact hi)).mono ?_
  rintro e w' ⟨rfl, rfl⟩
  go_wp2_with fail
  refine (join_any hr1 hr2 hbal1 hbal2 (by have := hz1.out; have := hz2.out; have := hz3.out; omega)).mono ?_
  rintro e w12 ⟨v12, T12, rfl, hb, hr12, hbal12, hi12⟩
  have hB4 := below_step hB3 hb
  replace hr1 := hr1.below hb
  replace hr2 := hr2.below hb
  replace hr3 := hr3.below hb
  clear hb
  go_wp2_with fail
  refine (join_any hr2 hr3 hbal2 hbal3 (by have := hz1.out; have := hz2.out; have := hz3.out; omega)).mono ?_
  rintro e w23 ⟨v23, T23, rfl, hb, hr23, hbal23, hi23⟩
  have hB5 := below_step hB4 hb
  replace hr1 := hr1.below hb
  replace hr2 := hr2.below hb
  replace hr3 := hr3.below hb
  replace hr12 := hr12.below hb
  clear hb
  go_wp2_with fail
  have hz12 : Hid (sz T12 = n1 + n2) := by show sz T12 = n1 + n2; rw [sz_of_items hi12, List.length_append, items_len, items_len, hz1.out, hz2.out]
  have hz23 : Hid (sz T23 = n2 + n3) := by show sz T23 = n2 + n3; rw [sz_of_items hi23, List.length_append, items_len, items_len, hz2.out, hz3.out]
  refine (join_any hr12 hr3 hbal12 hbal3 (by have := hz1.out; have := hz3.out; have := hz12.out; have := hz23.out; omega)).mono ?_
  rintro e wP ⟨vP, TP, rfl, hb, hrP, hbalP, hiP⟩
  have hB6 := below_step hB5 hb
  replace hr1 := hr1.below hb
  replace hr2 := hr2.below hb
  replace hr3 := hr3.below hb
  replace hr12 := hr12.below hb
  replace hr23 := hr23.below hb
  clear hb
  go_wp2_with fail
  refine (join_any hr1 hr23 hbal1 hbal23 (by have := hz1.out; have := hz3.out; have := hz12.out; have := hz23.out; omega)).mono ?_
  rintro e wQ ⟨vQ, TQ, rfl, hb, hrQ, hbalQ, hiQ⟩
  have hB7 := below_step hB6 hb
  replace hr1 := hr1.below hb
  replace hr2 := hr2.below hb
  replace hr3 := hr3.below hb
  replace hr12 := hr12.below hb
  replace hr23 := hr23.below hb
  replace hrP := hrP.below hb
  clear hb
  go_wp2_with fail
  have hPQ : Hid (items TQ = items TP) := by show items TQ = items TP; rw [hiP, hiQ, hi12, hi23, List.append_assoc]
  have hzP : Hid (sz TP = n1 + n2 + n3) := by show sz TP = n1 + n2 + n3; rw [sz_of_items hiP, List.length_append, items_len, items_len, hz12.out, hz3.out]
  have hzQ : Hid (sz TQ = n1 + n2 + n3) := by rw [← items_len, hPQ.out, items_len]; exact hzP.out
  refine (list_any hrP (by rw [hzP.out]; omega)).mono ?_
  rintro e wP ⟨aP, capP, rfl, hb, hP⟩
  have hB8 := below_step hB7 hb
  replace hr1 := hr1.below hb
  replace hr2 := hr2.below hb
  replace hr3 := hr3.below hb
  replace hr12 := hr12.below hb
  replace hr23 := hr23.below hb
  replace hrP := hrP.below hb
  replace hrQ := hrQ.below hb
  clear hb
  go_wp2_with fail
  refine (list_any hrQ (by rw [hzQ.out]; omega)).mono ?_
  rintro e wQ ⟨aQ, capQ, rfl, hb, hQ⟩
  replace hP := hP.below hb
  rw [hPQ.out] at hQ
  have hB9 := below_step hB8 hb
  replace hr1 := hr1.below hb
  replace hr2 := hr2.below hb
  replace hr3 := hr3.below hb
  replace hr12 := hr12.below hb
  replace hr23 := hr23.below hb
  replace hrP := hrP.below hb
  replace hrQ := hrQ.below hb
  clear hb
  go_wp2_with fail
  refine (ints_any hP hQ (by rw [hzP.out]; omega)).mono ?_
  rintro e wR ⟨rfl, hb⟩
  have hB10 := below_step hB9 hb
  replace hr1 := hr1.below hb
  replace hr2 := hr2.below hb
  replace hr3 := hr3.below hb
  replace hr12 := hr12.below hb
  replace hr23 := hr23.below hb
  replace hrP := hrP.below hb
  replace hrQ := hrQ.below hb
  clear hb
  go_wp2_with fail
  go_quiet (fail)
  go_wp2_with fail
  go_ret
  exact ⟨rfl, below_step hB10 (below_drewN rfl)⟩

set_option maxHeartbeats 2000000 in
theorem laws_ok_nn {a1 a2 a3 : Option Addr} {n1 n2 n3 m1 m2 m3 : Nat} {xs ys zs : List Int} (k : Nat) {w : World} (h1 : IntsAt w a1 n1 m1 xs) (h2 : IntsAt w a2 n2 m2 ys) (h3 : IntsAt w a3 n3 m3 zs) (c1 : m1 ≤ maxLen) (c2 : m2 ≤ maxLen) (c3 : m3 ≤ maxLen) (l1 : n1 ≤ 400) (l2 : n2 ≤ 400) (l3 : n3 ≤ 400) (hk : k ≤ n1) (j1 : 400 < n1 + n2) (j2 : 400 < n2 + n3) :
    Calls Try.prog 3 #[.slice a1 n1 m1, .slice a2 n2 m2, .slice a3 n3 m3, .int .i64 (k : Int)] w fun e w' => e = .returned (.bool true) ∧ Below w.heap.size w w' := by
  have e1 := h1.len
  have e2 := h2.len
  have e3 := h3.len
  go_enter Try.func3, Try.ntmps3
  go_wp2_with fail
  refine (of_any (ints_two 7 8 _) (by omega) (by unfold maxLen; omega)).mono ?_
  rintro e w0 ⟨v0, T0, rfl, hb0, hr0, _, hf0⟩
  have hs0 : Hid (sz T0 = 2) := sz_of_items hf0
  have hp0 : 1 ≤ dp T0 := dp_pos (by rw [hs0.out]; omega)
  have hB0 : Below w.heap.size w w0 := ((Below.refl _ _).alloc (Nat.le_refl _) _).trans (hb0.mono (by simp))
  clear hb0
  go_wp2_with fail
  refine (len_any hr0).mono ?_
  rintro e w' ⟨rfl, rfl⟩
  rw [hs0.out]
  go_wp2_with fail
  refine (depthOf_any hr0).mono ?_
  rintro e w' ⟨rfl, rfl⟩
  go_wp2_with fail
  refine (of_any (h1.below hB0) l1 c1).mono ?_
  rintro e w1 ⟨v1, T1, rfl, hb, hr1, hbal1, hi1⟩
  have hB1 := below_step hB0 hb
  clear hb
  go_wp2_with fail
  refine (of_any (h2.below hB1) l2 c2).mono ?_
  rintro e w2 ⟨v2, T2, rfl, hb, hr2, hbal2, hi2⟩
  have hB2 := below_step hB1 hb
  replace hr1 := hr1.below hb
  clear hb
  go_wp2_with fail
  refine (of_any (h3.below hB2) l3 c3).mono ?_
  rintro e w3 ⟨v3, T3, rfl, hb, hr3, hbal3, hi3⟩
  have hB3 := below_step hB2 hb
  replace hr1 := hr1.below hb
  replace hr2 := hr2.below hb
  clear hb
  go_wp2_with fail
  have hz1 : Hid (sz T1 = n1) := by rw [← e1]; exact sz_of_items hi1
  have hz2 : Hid (sz T2 = n2) := by rw [← e2]; exact sz_of_items hi2
  have hz3 : Hid (sz T3 = n3) := by rw [← e3]; exact sz_of_items hi3
  refine (split_any hr1 hbal1 (by rw [hz1.out]; exact l1) k (by rw [hz1.out]; exact hk)).mono ?_
  rintro e w4 ⟨vL, vH, L, H, rfl, hb, hrL, hrH, hq⟩
  have hB4 := below_step hB3 hb
  replace hr1 := hr1.below hb
  replace hr2 := hr2.below hb
  replace hr3 := hr3.below hb
  clear hb
  have hLH : Hid (sz L = k ∧ sz H = sz T1 - k) := hq.sizes (by rw [hz1.out]; exact hk)
  go_wp2_with fail
  refine (join_any hrL hrH hq.bl hq.bh (by have := hLH.out; have := hz1.out; omega)).mono ?_
  rintro e w5 ⟨vJ, TJ, rfl, hb, hrJ, _, hiJ⟩
  have hB5 := below_step hB4 hb
  replace hr1 := hr1.below hb
  replace hr2 := hr2.below hb
  replace hr3 := hr3.below hb
  replace hrL := hrL.below hb
  replace hrH := hrH.below hb
  clear hb
  rw [hq.low, hq.high, List.take_append_drop, hi1] at hiJ
  go_wp2_with fail
  refine (list_any hrJ (by rw [sz_of_items hiJ, e1]; omega)).mono ?_
  rintro e w6 ⟨aJ, capJ, rfl, hb, hJ⟩
  rw [hiJ] at hJ
  have hB6 := below_step hB5 hb
  replace hr1 := hr1.below hb
  replace hr2 := hr2.below hb
  replace hr3 := hr3.below hb
  replace hrL := hrL.below hb
  replace hrH := hrH.below hb
  clear hb
  go_wp2_with fail
  refine (ints_any hJ (h1.below hB6) (by rw [sz_of_items hiJ, e1]; omega)).mono ?_
  rintro e w7 ⟨rfl, hb⟩
  have hB7 := below_step hB6 hb
  replace hr1 := hr1.below hb
  replace hr2 := hr2.below hb
  replace hr3 := hr3.below hb
  replace hrL := hrL.below hb
  replace hrH := hrH.below hb
  clear hb
  go_wp2_with fail
  refine (len_any hrL).mono ?_
  rintro e w' ⟨rfl, rfl⟩
  rw [hLH.out.1]
  go_wp2_with fail
  refine (join_full hr1 hr2 (by have := hz1.out; have := hz2.out; have := hz3.out; omega) (by have := hz1.out; have := hz2.out; have := hz3.out; omega) (by have := hz1.out; have := hz2.out; have := hz3.out; omega)).mono ?_
  rintro e w' ⟨rfl, rfl⟩
  go_wp2_with fail
  refine (join_full hr2 hr3 (by have := hz1.out; have := hz2.out; have := hz3.out; omega) (by have := hz1.out; have := hz2.out; have := hz3.out; omega) (by have := hz1.out; have := hz2.out; have := hz3.out; omega)).mono ?_
  rintro e w' ⟨rfl, rfl⟩
  go_wp2_with fail
  go_ret
  exact ⟨rfl, hB7⟩

set_option maxHeartbeats 2000000 in
theorem laws_ok_ny {a1 a2 a3 : Option Addr} {n1 n2 n3 m1 m2 m3 : Nat} {xs ys zs : List Int} (k : Nat) {w : World} (h1 : IntsAt w a1 n1 m1 xs) (h2 : IntsAt w a2 n2 m2 ys) (h3 : IntsAt w a3 n3 m3 zs) (c1 : m1 ≤ maxLen) (c2 : m2 ≤ maxLen) (c3 : m3 ≤ maxLen) (l1 : n1 ≤ 400) (l2 : n2 ≤ 400) (l3 : n3 ≤ 400) (hk : k ≤ n1) (j1 : 400 < n1 + n2) (j2 : n2 + n3 ≤ 400) :
    Calls Try.prog 3 #[.slice a1 n1 m1, .slice a2 n2 m2, .slice a3 n3 m3, .int .i64 (k : Int)] w fun e w' => e = .returned (.bool true) ∧ Below w.heap.size w w' := by
  have e1 := h1.len
  have e2 := h2.len
  have e3 := h3.len
  go_enter Try.func3, Try.ntmps3
  go_wp2_with fail
  refine (of_any (ints_two 7 8 _) (by omega) (by unfold maxLen; omega)).mono ?_
  rintro e w0 ⟨v0, T0, rfl, hb0, hr0, _, hf0⟩
  have hs0 : Hid (sz T0 = 2) := sz_of_items hf0
  have hp0 : 1 ≤ dp T0 := dp_pos (by rw [hs0.out]; omega)
  have hB0 : Below w.heap.size w w0 := ((Below.refl _ _).alloc (Nat.le_refl _) _).trans (hb0.mono (by simp))
  clear hb0
  go_wp2_with fail
  refine (len_any hr0).mono ?_
  rintro e w' ⟨rfl, rfl⟩
  rw [hs0.out]
  go_wp2_with fail
  refine (depthOf_any hr0).mono ?_
  rintro e w' ⟨rfl, rfl⟩
  go_wp2_with fail
  refine (of_any (h1.below hB0) l1 c1).mono ?_
  rintro e w1 ⟨v1, T1, rfl, hb, hr1, hbal1, hi1⟩
  have hB1 := below_step hB0 hb
  clear hb
  go_wp2_with fail
  refine (of_any (h2.below hB1) l2 c2).mono ?_
  rintro e w2 ⟨v2, T2, rfl, hb, hr2, hbal2, hi2⟩
  have hB2 := below_step hB1 hb
  replace hr1 := hr1.below hb
  clear hb
  go_wp2_with fail
  refine (of_any (h3.below hB2) l3 c3).mono ?_
  rintro e w3 ⟨v3, T3, rfl, hb, hr3, hbal3, hi3⟩
  have hB3 := below_step hB2 hb
  replace hr1 := hr1.below hb
  replace hr2 := hr2.below hb
  clear hb
  go_wp2_with fail
  have hz1 : Hid (sz T1 = n1) := by rw [← e1]; exact sz_of_items hi1
  have hz2 : Hid (sz T2 = n2) := by rw [← e2]; exact sz_of_items hi2
  have hz3 : Hid (sz T3 = n3) := by rw [← e3]; exact sz_of_items hi3
  refine (split_any hr1 hbal1 (by rw [hz1.out]; exact l1) k (by rw [hz1.out]; exact hk)).mono ?_
  rintro e w4 ⟨vL, vH, L, H, rfl, hb, hrL, hrH, hq⟩
  have hB4 := below_step hB3 hb
  replace hr1 := hr1.below hb
  replace hr2 := hr2.below hb
  replace hr3 := hr3.below hb
  clear hb
  have hLH : Hid (sz L = k ∧ sz H = sz T1 - k) := hq.sizes (by rw [hz1.out]; exact hk)
  go_wp2_with fail
  refine (join_any hrL hrH hq.bl hq.bh (by have := hLH.out; have := hz1.out; omega)).mono ?_
  rintro e w5 ⟨vJ, TJ, rfl, hb, hrJ, _, hiJ⟩
  have hB5 := below_step hB4 hb
  replace hr1 := hr1.below hb
  replace hr2 := hr2.below hb
  replace hr3 := hr3.below hb
  replace hrL := hrL.below hb
  replace hrH := hrH.below hb
  clear hb
  rw [hq.low, hq.high, List.take_append_drop, hi1] at hiJ
  go_wp2_with fail
  refine (list_any hrJ (by rw [sz_of_items hiJ, e1]; omega)).mono ?_
  rintro e w6 ⟨aJ, capJ, rfl, hb, hJ⟩
  rw [hiJ] at hJ
  have hB6 := below_step hB5 hb
  replace hr1 := hr1.below hb
  replace hr2 := hr2.below hb
  replace hr3 := hr3.below hb
  replace hrL := hrL.below hb
  replace hrH := hrH.below hb
  clear hb
  go_wp2_with fail
  refine (ints_any hJ (h1.below hB6) (by rw [sz_of_items hiJ, e1]; omega)).mono ?_
  rintro e w7 ⟨rfl, hb⟩
  have hB7 := below_step hB6 hb
  replace hr1 := hr1.below hb
  replace hr2 := hr2.below hb
  replace hr3 := hr3.below hb
  replace hrL := hrL.below hb
  replace hrH := hrH.below hb
  clear hb
  go_wp2_with fail
  refine (len_any hrL).mono ?_
  rintro e w' ⟨rfl, rfl⟩
  rw [hLH.out.1]
  go_wp2_with fail
  refine (join_full hr1 hr2 (by have := hz1.out; have := hz2.out; have := hz3.out; omega) (by have := hz1.out; have := hz2.out; have := hz3.out; omega) (by have := hz1.out; have := hz2.out; have := hz3.out; omega)).mono ?_
  rintro e w' ⟨rfl, rfl⟩
  go_wp2_with fail
  refine (join_any hr2 hr3 hbal2 hbal3 (by have := hz1.out; have := hz2.out; have := hz3.out; omega)).mono ?_
  rintro e w23 ⟨v23, T23, rfl, hb, hr23, hbal23, hi23⟩
  have hB8 := below_step hB7 hb
  replace hr1 := hr1.below hb
  replace hr2 := hr2.below hb
  replace hr3 := hr3.below hb
  clear hb
  go_wp2_with fail
  go_ret
  exact ⟨rfl, hB8⟩

set_option maxHeartbeats 2000000 in
theorem laws_ok_yn {a1 a2 a3 : Option Addr} {n1 n2 n3 m1 m2 m3 : Nat} {xs ys zs : List Int} (k : Nat) {w : World} (h1 : IntsAt w a1 n1 m1 xs) (h2 : IntsAt w a2 n2 m2 ys) (h3 : IntsAt w a3 n3 m3 zs) (c1 : m1 ≤ maxLen) (c2 : m2 ≤ maxLen) (c3 : m3 ≤ maxLen) (l1 : n1 ≤ 400) (l2 : n2 ≤ 400) (l3 : n3 ≤ 400) (hk : k ≤ n1) (j1 : n1 + n2 ≤ 400) (j2 : 400 < n2 + n3) :
    Calls Try.prog 3 #[.slice a1 n1 m1, .slice a2 n2 m2, .slice a3 n3 m3, .int .i64 (k : Int)] w fun e w' => e = .returned (.bool true) ∧ Below w.heap.size w w' := by
  have e1 := h1.len
  have e2 := h2.len
  have e3 := h3.len
  go_enter Try.func3, Try.ntmps3
  go_wp2_with fail
  refine (of_any (ints_two 7 8 _) (by omega) (by unfold maxLen; omega)).mono ?_
  rintro e w0 ⟨v0, T0, rfl, hb0, hr0, _, hf0⟩
  have hs0 : Hid (sz T0 = 2) := sz_of_items hf0
  have hp0 : 1 ≤ dp T0 := dp_pos (by rw [hs0.out]; omega)
  have hB0 : Below w.heap.size w w0 := ((Below.refl _ _).alloc (Nat.le_refl _) _).trans (hb0.mono (by simp))
  clear hb0
  go_wp2_with fail
  refine (len_any hr0).mono ?_
  rintro e w' ⟨rfl, rfl⟩
  rw [hs0.out]
  go_wp2_with fail
  refine (depthOf_any hr0).mono ?_
  rintro e w' ⟨rfl, rfl⟩
  go_wp2_with fail
  refine (of_any (h1.below hB0) l1 c1).mono ?_
  rintro e w1 ⟨v1, T1, rfl, hb, hr1, hbal1, hi1⟩
  have hB1 := below_step hB0 hb
  clear hb
  go_wp2_with fail
  refine (of_any (h2.below hB1) l2 c2).mono ?_
  rintro e w2 ⟨v2, T2, rfl, hb, hr2, hbal2, hi2⟩
  have hB2 := below_step hB1 hb
  replace hr1 := hr1.below hb
  clear hb
  go_wp2_with fail
  refine (of_any (h3.below hB2) l3 c3).mono ?_
  rintro e w3 ⟨v3, T3, rfl, hb, hr3, hbal3, hi3⟩
  have hB3 := below_step hB2 hb
  replace hr1 := hr1.below hb
  replace hr2 := hr2.below hb
  clear hb
  go_wp2_with fail
  have hz1 : Hid (sz T1 = n1) := by rw [← e1]; exact sz_of_items hi1
  have hz2 : Hid (sz T2 = n2) := by rw [← e2]; exact sz_of_items hi2
  have hz3 : Hid (sz T3 = n3) := by rw [← e3]; exact sz_of_items hi3
  refine (split_any hr1 hbal1 (by rw [hz1.out]; exact l1) k (by rw [hz1.out]; exact hk)).mono ?_
  rintro e w4 ⟨vL, vH, L, H, rfl, hb, hrL, hrH, hq⟩
  have hB4 := below_step hB3 hb
  replace hr1 := hr1.below hb
  replace hr2 := hr2.below hb
  replace hr3 := hr3.below hb
  clear hb
  have hLH : Hid (sz L = k ∧ sz H = sz T1 - k) := hq.sizes (by rw [hz1.out]; exact hk)
  go_wp2_with fail
  refine (join_any hrL hrH hq.bl hq.bh (by have := hLH.out; have := hz1.out; omega)).mono ?_
  rintro e w5 ⟨vJ, TJ, rfl, hb, hrJ, _, hiJ⟩
  have hB5 := below_step hB4 hb
  replace hr1 := hr1.below hb
  replace hr2 := hr2.below hb
  replace hr3 := hr3.below hb
  replace hrL := hrL.below hb
  replace hrH := hrH.below hb
  clear hb
  rw [hq.low, hq.high, List.take_append_drop, hi1] at hiJ
  go_wp2_with fail
  refine (list_any hrJ (by rw [sz_of_items hiJ, e1]; omega)).mono ?_
  rintro e w6 ⟨aJ, capJ, rfl, hb, hJ⟩
  rw [hiJ] at hJ
  have hB6 := below_step hB5 hb
  replace hr1 := hr1.below hb
  replace hr2 := hr2.below hb
  replace hr3 := hr3.below hb
  replace hrL := hrL.below hb
  replace hrH := hrH.below hb
  clear hb
  go_wp2_with fail
  refine (ints_any hJ (h1.below hB6) (by rw [sz_of_items hiJ, e1]; omega)).mono ?_
  rintro e w7 ⟨rfl, hb⟩
  have hB7 := below_step hB6 hb
  replace hr1 := hr1.below hb
  replace hr2 := hr2.below hb
  replace hr3 := hr3.below hb
  replace hrL := hrL.below hb
  replace hrH := hrH.below hb
  clear hb
  go_wp2_with fail
  refine (len_any hrL).mono ?_
  rintro e w' ⟨rfl, rfl⟩
  rw [hLH.out.1]
  go_wp2_with fail
  refine (join_any hr1 hr2 hbal1 hbal2 (by have := hz1.out; have := hz2.out; have := hz3.out; omega)).mono ?_
  rintro e w12 ⟨v12, T12, rfl, hb, hr12, hbal12, hi12⟩
  have hB8 := below_step hB7 hb
  replace hr1 := hr1.below hb
  replace hr2 := hr2.below hb
  replace hr3 := hr3.below hb
  clear hb
  go_wp2_with fail
  refine (join_full hr2 hr3 (by have := hz1.out; have := hz2.out; have := hz3.out; omega) (by have := hz1.out; have := hz2.out; have := hz3.out; omega) (by have := hz1.out; have := hz2.out; have := hz3.out; omega)).mono ?_
  rintro e w' ⟨rfl, rfl⟩
  go_wp2_with fail
  go_ret
  exact ⟨rfl, hB8⟩

set_option maxHeartbeats 2000000 in
theorem laws_ok_yyn {a1 a2 a3 : Option Addr} {n1 n2 n3 m1 m2 m3 : Nat} {xs ys zs : List Int} (k : Nat) {w : World} (h1 : IntsAt w a1 n1 m1 xs) (h2 : IntsAt w a2 n2 m2 ys) (h3 : IntsAt w a3 n3 m3 zs) (c1 : m1 ≤ maxLen) (c2 : m2 ≤ maxLen) (c3 : m3 ≤ maxLen) (l1 : n1 ≤ 400) (l2 : n2 ≤ 400) (l3 : n3 ≤ 400) (hk : k ≤ n1) (j1 : n1 + n2 ≤ 400) (j2 : n2 + n3 ≤ 400) (j3 : 400 < n1 + n2 + n3) :
    Calls Try.prog 3 #[.slice a1 n1 m1, .slice a2 n2 m2, .slice a3 n3 m3, .int .i64 (k : Int)] w fun e w' => e = .returned (.bool true) ∧ Below w.heap.size w w' := by
  have e1 := h1.len
  have e2 := h2.len
  have e3 := h3.len
  go_enter Try.func3, Try.ntmps3
  go_wp2_with fail
  refine (of_any (ints_two 7 8 _) (by omega) (by unfold maxLen; omega)).mono ?_
  rintro e w0 ⟨v0, T0, rfl, hb0, hr0, _, hf0⟩
  have hs0 : Hid (sz T0 = 2) := sz_of_items hf0
  have hp0 : 1 ≤ dp T0 := dp_pos (by rw [hs0.out]; omega)
  have hB0 : Below w.heap.size w w0 := ((Below.refl _ _).alloc (Nat.le_refl _) _).trans (hb0.mono (by simp))
  clear hb0
  go_wp2_with fail
  refine (len_any hr0).mono ?_
  rintro e w' ⟨rfl, rfl⟩
  rw [hs0.out]
  go_wp2_with fail
  refine (depthOf_any hr0).mono ?_
  rintro e w' ⟨rfl, rfl⟩
  go_wp2_with fail
  refine (of_any (h1.below hB0) l1 c1).mono ?_
  rintro e w1 ⟨v1, T1, rfl, hb, hr1, hbal1, hi1⟩
  have hB1 := below_step hB0 hb
  clear hb
  go_wp2_with fail
  refine (of_any (h2.below hB1) l2 c2).mono ?_
  rintro e w2 ⟨v2, T2, rfl, hb, hr2, hbal2, hi2⟩
  have hB2 := below_step hB1 hb
  replace hr1 := hr1.below hb
  clear hb
  go_wp2_with fail
  refine (of_any (h3.below hB2) l3 c3).mono ?_
  rintro e w3 ⟨v3, T3, rfl, hb, hr3, hbal3, hi3⟩
  have hB3 := below_step hB2 hb
  replace hr1 := hr1.below hb
  replace hr2 := hr2.below hb
  clear hb
  go_wp2_with fail
  have hz1 : Hid (sz T1 = n1) := by rw [← e1]; exact sz_of_items hi1
  have hz2 : Hid (sz T2 = n2) := by rw [← e2]; exact sz_of_items hi2
  have hz3 : Hid (sz T3 = n3) := by rw [← e3]; exact sz_of_items hi3
  refine (split_any hr1 hbal1 (by rw [hz1.out]; exact l1) k (by rw [hz1.out]; exact hk)).mono ?_
  rintro e w4 ⟨vL, vH, L, H, rfl, hb, hrL, hrH, hq⟩
  have hB4 := below_step hB3 hb
  replace hr1 := hr1.below hb
  replace hr2 := hr2.below hb
  replace hr3 := hr3.below hb
  clear hb
  have hLH : Hid (sz L = k ∧ sz H = sz T1 - k) := hq.sizes (by rw [hz1.out]; exact hk)
  go_wp2_with fail
  refine (join_any hrL hrH hq.bl hq.bh (by have := hLH.out; have := hz1.out; omega)).mono ?_
  rintro e w5 ⟨vJ, TJ, rfl, hb, hrJ, _, hiJ⟩
  have hB5 := below_step hB4 hb
  replace hr1 := hr1.below hb
  replace hr2 := hr2.below hb
  replace hr3 := hr3.below hb
  replace hrL := hrL.below hb
  replace hrH := hrH.below hb
  clear hb
  rw [hq.low, hq.high, List.take_append_drop, hi1] at hiJ
  go_wp2_with fail
  refine (list_any hrJ (by rw [sz_of_items hiJ, e1]; omega)).mono ?_
  rintro e w6 ⟨aJ, capJ, rfl, hb, hJ⟩
  rw [hiJ] at hJ
  have hB6 := below_step hB5 hb
  replace hr1 := hr1.below hb
  replace hr2 := hr2.below hb
  replace hr3 := hr3.below hb
  replace hrL := hrL.below hb
  replace hrH := hrH.below hb
  clear hb
  go_wp2_with fail
  refine (ints_any hJ (h1.below hB6) (by rw [sz_of_items hiJ, e1]; omega)).mono ?_
  rintro e w7 ⟨rfl, hb⟩
  have hB7 := below_step hB6 hb
  replace hr1 := hr1.below hb
  replace hr2 := hr2.below hb
  replace hr3 := hr3.below hb
  replace hrL := hrL.below hb
  replace hrH := hrH.below hb
  clear hb
  go_wp2_with fail
  refine (len_any hrL).mono ?_
  rintro e w' ⟨rfl, rfl⟩
  rw [hLH.out.1]
  go_wp2_with fail
  refine (join_any hr1 hr2 hbal1 hbal2 (by have := hz1.out; have := hz2.out; have := hz3.out; omega)).mono ?_
  rintro e w12 ⟨v12, T12, rfl, hb, hr12, hbal12, hi12⟩
  have hB8 := below_step hB7 hb
  replace hr1 := hr1.below hb
  replace hr2 := hr2.below hb
  replace hr3 := hr3.below hb
  clear hb
  go_wp2_with fail
  refine (join_any hr2 hr3 hbal2 hbal3 (by have := hz1.out; have := hz2.out; have := hz3.out; omega)).mono ?_
  rintro e w23 ⟨v23, T23, rfl, hb, hr23, hbal23, hi23⟩
  have hB9 := below_step hB8 hb
  replace hr1 := hr1.below hb
  replace hr2 := hr2.below hb
  replace hr3 := hr3.below hb
  replace hr12 := hr12.below hb
  clear hb
  go_wp2_with fail
  have hz12 : Hid (sz T12 = n1 + n2) := by show sz T12 = n1 + n2; rw [sz_of_items hi12, List.length_append, items_len, items_len, hz1.out, hz2.out]
  have hz23 : Hid (sz T23 = n2 + n3) := by show sz T23 = n2 + n3; rw [sz_of_items hi23, List.length_append, items_len, items_len, hz2.out, hz3.out]
  refine (join_full hr12 hr3 (by have := hz1.out; have := hz3.out; have := hz12.out; have := hz23.out; omega) (by have := hz1.out; have := hz3.out; have := hz12.out; have := hz23.out; omega) (by have := hz1.out; have := hz3.out; have := hz12.out; have := hz23.out; omega)).mono ?_
  rintro e w' ⟨rfl, rfl⟩
  go_wp2_with fail
  refine (join_full hr1 hr23 (by have := hz1.out; have := hz3.out; have := hz12.out; have := hz23.out; omega) (by have := hz1.out; have := hz3.out; have := hz12.out; have := hz23.out; omega) (by have := hz1.out; have := hz3.out; have := hz12.out; have := hz23.out; omega)).mono ?_
  rintro e w' ⟨rfl, rfl⟩
  go_wp2_with fail
  refine (list_any (RowAt.nil_ _) (by simp only [sz]; omega)).mono ?_
  rintro e wP ⟨aP, capP, rfl, hb, hP⟩
  have hB10 := below_step hB9 hb
  replace hr1 := hr1.below hb
  replace hr2 := hr2.below hb
  replace hr3 := hr3.below hb
  replace hr12 := hr12.below hb
  replace hr23 := hr23.below hb
  clear hb
  go_wp2_with fail
  refine (list_any (RowAt.nil_ _) (by simp only [sz]; omega)).mono ?_
  rintro e wQ ⟨aQ, capQ, rfl, hb, hQ⟩
  replace hP := hP.below hb
  have hB11 := below_step hB10 hb
  replace hr1 := hr1.below hb
  replace hr2 := hr2.below hb
  replace hr3 := hr3.below hb
  replace hr12 := hr12.below hb
  replace hr23 := hr23.below hb
  clear hb
  go_wp2_with fail
  refine (ints_any hP hQ (by simp only [sz]; omega)).mono ?_
  rintro e wR ⟨rfl, hb⟩
  have hB12 := below_step hB11 hb
  replace hr1 := hr1.below hb
  replace hr2 := hr2.below hb
  replace hr3 := hr3.below hb
  replace hr12 := hr12.below hb
  replace hr23 := hr23.below hb
  clear hb
  go_wp2_with fail
  go_quiet (fail)
  go_wp2_with fail
  go_ret
  exact ⟨rfl, below_step hB12 (below_drewN rfl)⟩

set_option maxHeartbeats 2000000 in
theorem laws_ok_yyy {a1 a2 a3 : Option Addr} {n1 n2 n3 m1 m2 m3 : Nat} {xs ys zs : List Int} (k : Nat) {w : World} (h1 : IntsAt w a1 n1 m1 xs) (h2 : IntsAt w a2 n2 m2 ys) (h3 : IntsAt w a3 n3 m3 zs) (c1 : m1 ≤ maxLen) (c2 : m2 ≤ maxLen) (c3 : m3 ≤ maxLen) (l1 : n1 ≤ 400) (l2 : n2 ≤ 400) (l3 : n3 ≤ 400) (hk : k ≤ n1) (j1 : n1 + n2 ≤ 400) (j2 : n2 + n3 ≤ 400) (j3 : n1 + n2 + n3 ≤ 400) :
    Calls Try.prog 3 #[.slice a1 n1 m1, .slice a2 n2 m2, .slice a3 n3 m3, .int .i64 (k : Int)] w fun e w' => e = .returned (.bool true) ∧ Below w.heap.size w w' := by
  have e1 := h1.len
  have e2 := h2.len
  have e3 := h3.len
  go_enter Try.func3, Try.ntmps3
  go_wp2_with fail
  refine (of_any (ints_two 7 8 _) (by omega) (by unfold maxLen; omega)).mono ?_
  rintro e w0 ⟨v0, T0, rfl, hb0, hr0, _, hf0⟩
  have hs0 : Hid (sz T0 = 2) := sz_of_items hf0
  have hp0 : 1 ≤ dp T0 := dp_pos (by rw [hs0.out]; omega)
  have hB0 : Below w.heap.size w w0 := ((Below.refl _ _).alloc (Nat.le_refl _) _).trans (hb0.mono (by simp))
  clear hb0
  go_wp2_with fail
  refine (len_any hr0).mono ?_
  rintro e w' ⟨rfl, rfl⟩
  rw [hs0.out]
  go_wp2_with fail
  refine (depthOf_any hr0).mono ?_
  rintro e w' ⟨rfl, rfl⟩
  go_wp2_with fail
  refine (of_any (h1.below hB0) l1 c1).mono ?_
  rintro e w1 ⟨v1, T1, rfl, hb, hr1, hbal1, hi1⟩
  have hB1 := below_step hB0 hb
  clear hb
  go_wp2_with fail
  refine (of_any (h2.below hB1) l2 c2).mono ?_
  rintro e w2 ⟨v2, T2, rfl, hb, hr2, hbal2, hi2⟩
  have hB2 := below_step hB1 hb
  replace hr1 := hr1.below hb
  clear hb
  go_wp2_with fail
  refine (of_any (h3.below hB2) l3 c3).mono ?_
  rintro e w3 ⟨v3, T3, rfl, hb, hr3, hbal3, hi3⟩
  have hB3 := below_step hB2 hb
  replace hr1 := hr1.below hb
  replace hr2 := hr2.below hb
  clear hb
  go_wp2_with fail
  have hz1 : Hid (sz T1 = n1) := by rw [← e1]; exact sz_of_items hi1
  have hz2 : Hid (sz T2 = n2) := by rw [← e2]; exact sz_of_items hi2
  have hz3 : Hid (sz T3 = n3) := by rw [← e3]; exact sz_of_items hi3
  refine (split_any hr1 hbal1 (by rw [hz1.out]; exact l1) k (by rw [hz1.out]; exact hk)).mono ?_
  rintro e w4 ⟨vL, vH, L, H, rfl, hb, hrL, hrH, hq⟩
  have hB4 := below_step hB3 hb
  replace hr1 := hr1.below hb
  replace hr2 := hr2.below hb
  replace hr3 := hr3.below hb
  clear hb
  have hLH : Hid (sz L = k ∧ sz H = sz T1 - k) := hq.sizes (by rw [hz1.out]; exact hk)
  go_wp2_with fail
  refine (join_any hrL hrH hq.bl hq.bh (by have := hLH.out; have := hz1.out; omega)).mono ?_
  rintro e w5 ⟨vJ, TJ, rfl, hb, hrJ, _, hiJ⟩
  have hB5 := below_step hB4 hb
  replace hr1 := hr1.below hb
  replace hr2 := hr2.below hb
  replace hr3 := hr3.below hb
  replace hrL := hrL.below hb
  replace hrH := hrH.below hb
  clear hb
  rw [hq.low, hq.high, List.take_append_drop, hi1] at hiJ
  go_wp2_with fail
  refine (list_any hrJ (by rw [sz_of_items hiJ, e1]; omega)).mono ?_
  rintro e w6 ⟨aJ, capJ, rfl, hb, hJ⟩
  rw [hiJ] at hJ
  have hB6 := below_step hB5 hb
  replace hr1 := hr1.below hb
  replace hr2 := hr2.below hb
  replace hr3 := hr3.below hb
  replace hrL := hrL.below hb
  replace hrH := hrH.below hb
  clear hb
  go_wp2_with fail
  refine (ints_any hJ (h1.below hB6) (by rw [sz_of_items hiJ, e1]; omega)).mono ?_
  rintro e w7 ⟨rfl, hb⟩
  have hB7 := below_step hB6 hb
  replace hr1 := hr1.below hb
  replace hr2 := hr2.below hb
  replace hr3 := hr3.below hb
  replace hrL := hrL.below hb
  replace hrH := hrH.below hb
  clear hb
  go_wp2_with fail
  refine (len_any hrL).mono ?_
  rintro e w' ⟨rfl, rfl⟩
  rw [hLH.out.1]
  go_wp2_with fail
  refine (join_any hr1 hr2 hbal1 hbal2 (by have := hz1.out; have := hz2.out; have := hz3.out; omega)).mono ?_
  rintro e w12 ⟨v12, T12, rfl, hb, hr12, hbal12, hi12⟩
  have hB8 := below_step hB7 hb
  replace hr1 := hr1.below hb
  replace hr2 := hr2.below hb
  replace hr3 := hr3.below hb
  clear hb
  go_wp2_with fail
  refine (join_any hr2 hr3 hbal2 hbal3 (by have := hz1.out; have := hz2.out; have := hz3.out; omega)).mono ?_
  rintro e w23 ⟨v23, T23, rfl, hb, hr23, hbal23, hi23⟩
  have hB9 := below_step hB8 hb
  replace hr1 := hr1.below hb
  replace hr2 := hr2.below hb
  replace hr3 := hr3.below hb
  replace hr12 := hr12.below hb
  clear hb
  go_wp2_with fail
  have hz12 : Hid (sz T12 = n1 + n2) := by show sz T12 = n1 + n2; rw [sz_of_items hi12, List.length_append, items_len, items_len, hz1.out, hz2.out]
  have hz23 : Hid (sz T23 = n2 + n3) := by show sz T23 = n2 + n3; rw [sz_of_items hi23, List.length_append, items_len, items_len, hz2.out, hz3.out]
  refine (join_any hr12 hr3 hbal12 hbal3 (by have := hz1.out; have := hz3.out; have := hz12.out; have := hz23.out; omega)).mono ?_
  rintro e wP ⟨vP, TP, rfl, hb, hrP, hbalP, hiP⟩
  have hB10 := below_step hB9 hb
  replace hr1 := hr1.below hb
  replace hr2 := hr2.below hb
  replace hr3 := hr3.below hb
  replace hr12 := hr12.below hb
  replace hr23 := hr23.below hb
  clear hb
  go_wp2_with fail
  refine (join_any hr1 hr23 hbal1 hbal23 (by have := hz1.out; have := hz3.out; have := hz12.out; have := hz23.out; omega)).mono ?_
  rintro e wQ ⟨vQ, TQ, rfl, hb, hrQ, hbalQ, hiQ⟩
  have hB11 := below_step hB10 hb
  replace hr1 := hr1.below hb
  replace hr2 := hr2.below hb
  replace hr3 := hr3.below hb
  replace hr12 := hr12.below hb
  replace hr23 := hr23.below hb
  replace hrP := hrP.below hb
  clear hb
  go_wp2_with fail
  have hPQ : Hid (items TQ = items TP) := by show items TQ = items TP; rw [hiP, hiQ, hi12, hi23, List.append_assoc]
  have hzP : Hid (sz TP = n1 + n2 + n3) := by show sz TP = n1 + n2 + n3; rw [sz_of_items hiP, List.length_append, items_len, items_len, hz12.out, hz3.out]
  have hzQ : Hid (sz TQ = n1 + n2 + n3) := by rw [← items_len, hPQ.out, items_len]; exact hzP.out
  refine (list_any hrP (by rw [hzP.out]; omega)).mono ?_
  rintro e wP ⟨aP, capP, rfl, hb, hP⟩
  have hB12 := below_step hB11 hb
  replace hr1 := hr1.below hb
  replace hr2 := hr2.below hb
  replace hr3 := hr3.below hb
  replace hr12 := hr12.below hb
  replace hr23 := hr23.below hb
  replace hrP := hrP.below hb
  replace hrQ := hrQ.below hb
  clear hb
  go_wp2_with fail
  refine (list_any hrQ (by rw [hzQ.out]; omega)).mono ?_
  rintro e wQ ⟨aQ, capQ, rfl, hb, hQ⟩
  replace hP := hP.below hb
  rw [hPQ.out] at hQ
  have hB13 := below_step hB12 hb
  replace hr1 := hr1.below hb
  replace hr2 := hr2.below hb
  replace hr3 := hr3.below hb
  replace hr12 := hr12.below hb
  replace hr23 := hr23.below hb
  replace hrP := hrP.below hb
  replace hrQ := hrQ.below hb
  clear hb
  go_wp2_with fail
  refine (ints_any hP hQ (by rw [hzP.out]; omega)).mono ?_
  rintro e wR ⟨rfl, hb⟩
  have hB14 := below_step hB13 hb
  replace hr1 := hr1.below hb
  replace hr2 := hr2.below hb
  replace hr3 := hr3.below hb
  replace hr12 := hr12.below hb
  replace hr23 := hr23.below hb
  replace hrP := hrP.below hb
  replace hrQ := hrQ.below hb
  clear hb
  go_wp2_with fail
  go_quiet (fail)
  go_wp2_with fail
  go_ret
  exact ⟨rfl, below_step hB14 (below_drewN rfl)⟩

theorem laws_all {a1 a2 a3 : Option Addr} {n1 n2 n3 m1 m2 m3 : Nat} {xs ys zs : List Int} (i : Int) {w : World} (h1 : IntsAt w a1 n1 m1 xs) (h2 : IntsAt w a2 n2 m2 ys) (h3 : IntsAt w a3 n3 m3 zs) (c1 : m1 ≤ maxLen) (c2 : m2 ≤ maxLen) (c3 : m3 ≤ maxLen) :
    Calls Try.prog 3 #[.slice a1 n1 m1, .slice a2 n2 m2, .slice a3 n3 m3, .int .i64 i] w fun e w' => e = .returned (.bool true) ∧ Below w.heap.size w w' := by
  by_cases l1 : n1 ≤ 400
  · by_cases l2 : n2 ≤ 400
    · by_cases l3 : n3 ≤ 400
      · by_cases j1 : n1 + n2 ≤ 400
        · by_cases j2 : n2 + n3 ≤ 400
          · by_cases j3 : n1 + n2 + n3 ≤ 400
            · by_cases hi0 : i < 0
              · exact laws_low_yyy i h1 h2 h3 c1 c2 c3 l1 l2 l3 hi0 (by omega) (by omega) (by omega)
              · by_cases hi : (n1 : Int) < i
                · exact laws_high_yyy i h1 h2 h3 c1 c2 c3 l1 l2 l3 (by omega) hi (by omega) (by omega) (by omega)
                · obtain ⟨k, rfl⟩ := Int.eq_ofNat_of_zero_le (Int.not_lt.1 hi0)
                  exact laws_ok_yyy k h1 h2 h3 c1 c2 c3 l1 l2 l3 (by omega) (by omega) (by omega) (by omega)
            · by_cases hi0 : i < 0
              · exact laws_low_yyn i h1 h2 h3 c1 c2 c3 l1 l2 l3 hi0 (by omega) (by omega) (by omega)
              · by_cases hi : (n1 : Int) < i
                · exact laws_high_yyn i h1 h2 h3 c1 c2 c3 l1 l2 l3 (by omega) hi (by omega) (by omega) (by omega)
                · obtain ⟨k, rfl⟩ := Int.eq_ofNat_of_zero_le (Int.not_lt.1 hi0)
                  exact laws_ok_yyn k h1 h2 h3 c1 c2 c3 l1 l2 l3 (by omega) (by omega) (by omega) (by omega)
          · by_cases hi0 : i < 0
            · exact laws_low_yn i h1 h2 h3 c1 c2 c3 l1 l2 l3 hi0 (by omega) (by omega)
            · by_cases hi : (n1 : Int) < i
              · exact laws_high_yn i h1 h2 h3 c1 c2 c3 l1 l2 l3 (by omega) hi (by omega) (by omega)
              · obtain ⟨k, rfl⟩ := Int.eq_ofNat_of_zero_le (Int.not_lt.1 hi0)
                exact laws_ok_yn k h1 h2 h3 c1 c2 c3 l1 l2 l3 (by omega) (by omega) (by omega)
        · by_cases j2 : n2 + n3 ≤ 400
          · by_cases hi0 : i < 0
            · exact laws_low_ny i h1 h2 h3 c1 c2 c3 l1 l2 l3 hi0 (by omega) (by omega)
            · by_cases hi : (n1 : Int) < i
              · exact laws_high_ny i h1 h2 h3 c1 c2 c3 l1 l2 l3 (by omega) hi (by omega) (by omega)
              · obtain ⟨k, rfl⟩ := Int.eq_ofNat_of_zero_le (Int.not_lt.1 hi0)
                exact laws_ok_ny k h1 h2 h3 c1 c2 c3 l1 l2 l3 (by omega) (by omega) (by omega)
          · by_cases hi0 : i < 0
            · exact laws_low_nn i h1 h2 h3 c1 c2 c3 l1 l2 l3 hi0 (by omega) (by omega)
            · by_cases hi : (n1 : Int) < i
              · exact laws_high_nn i h1 h2 h3 c1 c2 c3 l1 l2 l3 (by omega) hi (by omega) (by omega)
              · obtain ⟨k, rfl⟩ := Int.eq_ofNat_of_zero_le (Int.not_lt.1 hi0)
                exact laws_ok_nn k h1 h2 h3 c1 c2 c3 l1 l2 l3 (by omega) (by omega) (by omega)
      · exact laws_no110 i h1 h2 h3 c1 c2 c3 l1 l2 (by omega)
    · by_cases l3 : n3 ≤ 400
      · exact laws_no101 i h1 h2 h3 c1 c2 c3 l1 (by omega) l3
      · exact laws_no100 i h1 h2 h3 c1 c2 c3 l1 (by omega) (by omega)
  · by_cases l2 : n2 ≤ 400
    · by_cases l3 : n3 ≤ 400
      · exact laws_no011 i h1 h2 h3 c1 c2 c3 (by omega) l2 l3
      · exact laws_no010 i h1 h2 h3 c1 c2 c3 (by omega) l2 (by omega)
    · by_cases l3 : n3 ≤ 400
      · exact laws_no001 i h1 h2 h3 c1 c2 c3 (by omega) (by omega) l3
      · exact laws_no000 i h1 h2 h3 c1 c2 c3 (by omega) (by omega) (by omega)

end Go.Proofs.Ytpmkllmeilhakaa
