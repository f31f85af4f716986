/-
  SeqStays: the walk of the statement. The loop's five rounds leave both rows as they are.
-/
import Derived.Test.YtpmkllmeilhakaaWalks4
import Derived.Test.YtpmkllmeilhakaaWalks5
import Derived.Test.YtpmkllmeilhakaaLaws
namespace Go.Proofs.Ytpmkllmeilhakaa
open Go.RowKit Go.Deep

/-- What a call of Split answers, whatever the place. -/
def SplitOut (w : World) (T : BT Int) (e : Ending) (w' : World) : Prop :=
  ∃ v1 v2 L H err, e = .returned (.tuple #[.pointer v1, .pointer v2, err]) ∧ Below w.heap.size w w' ∧ RowAt w' v1 L ∧ RowAt w' v2 H ∧ Bal L ∧ Bal H ∧ sz L + sz H ≤ sz T ∧
    (err = .nilIface ∨ err = .iface 36 (.int .i64 1))

theorem split_out {v : Option Addr} {T : BT Int} {w : World} (h : RowAt w v T) (hb : Bal T) (hs : sz T ≤ 400) (i : Int) : Calls Try.prog 8 #[.pointer v, .int .i64 i] w (SplitOut w T) := by
  by_cases h0 : i < 0
  · refine (split_low i h0).mono ?_
    rintro e w' ⟨rfl, rfl⟩
    exact ⟨none, none, .nil, .nil, _, rfl, Below.refl _ _, RowAt.nil_ _, RowAt.nil_ _, trivial, trivial, Nat.zero_le _, Or.inr rfl⟩
  · by_cases h1 : (sz T : Int) < i
    · refine (split_high h i (by omega) h1).mono ?_
      rintro e w' ⟨rfl, rfl⟩
      exact ⟨none, none, .nil, .nil, _, rfl, Below.refl _ _, RowAt.nil_ _, RowAt.nil_ _, trivial, trivial, Nat.zero_le _, Or.inr rfl⟩
    · obtain ⟨k, rfl⟩ := Int.eq_ofNat_of_zero_le (Int.not_lt.1 h0)
      refine (split_any h hb hs k (by omega)).mono ?_
      rintro e w' ⟨v1, v2, L, H, rfl, hb', hL, hH, hq⟩
      have := hq.sizes (by omega)
      exact ⟨v1, v2, L, H, _, rfl, hb', hL, hH, hq.bl, hq.bh, by omega, Or.inl rfl⟩

/-- What a call of Join answers, whatever the rows. -/
def JoinOut (w : World) (T1 T2 : BT Int) (e : Ending) (w' : World) : Prop :=
  ∃ v T err, e = .returned (.tuple #[.pointer v, err]) ∧ Below w.heap.size w w' ∧ RowAt w' v T ∧ Bal T ∧ sz T ≤ 400 ∧
    ((err = .nilIface ∧ sz T1 + sz T2 ≤ 400) ∨ (err = .iface 36 (.int .i64 3) ∧ 400 < sz T1 + sz T2))

theorem join_out {v1 v2 : Option Addr} {T1 T2 : BT Int} {w : World} (h1 : RowAt w v1 T1) (h2 : RowAt w v2 T2) (b1 : Bal T1) (b2 : Bal T2) (hs1 : sz T1 ≤ 400) (hs2 : sz T2 ≤ 400) :
    Calls Try.prog 9 #[.pointer v1, .pointer v2] w (JoinOut w T1 T2) := by
  by_cases hn : sz T1 + sz T2 ≤ 400
  · refine (join_any h1 h2 b1 b2 hn).mono ?_
    rintro e w' ⟨v, T, rfl, hb, hr, hbal, hi⟩
    exact ⟨v, T, _, rfl, hb, hr, hbal, by rw [sz_of_items hi, List.length_append, items_len, items_len]; exact hn, Or.inl ⟨rfl, hn⟩⟩
  · refine (join_full h1 h2 (by omega) hs1 hs2).mono ?_
    rintro e w' ⟨rfl, rfl⟩
    exact ⟨none, .nil, _, rfl, Below.refl _ _, RowAt.nil_ _, trivial, Nat.zero_le _, Or.inr ⟨rfl, by omega⟩⟩

set_option maxHeartbeats 1000000 in
theorem stays_no00 {a1 a2 : Option Addr} {n1 n2 m1 m2 : Nat} {xs ys : List Int} (i k : Int) {w : World} (h1 : IntsAt w a1 n1 m1 xs) (h2 : IntsAt w a2 n2 m2 ys) (c1 : m1 ≤ maxLen) (c2 : m2 ≤ maxLen) (l1 : 400 < n1) (l2 : 400 < n2) :
    Calls Try.prog 4 #[.slice a1 n1 m1, .slice a2 n2 m2, .int .i64 i, .int .i64 k] w fun e w' => e = .returned (.bool true) ∧ Below w.heap.size w w' := by
  go_enter Try.func4, Try.ntmps4
  go_wp2_with fail
  refine (of_any (ints_one 7 _) (by omega) (by unfold maxLen; omega)).mono ?_
  rintro e w0 ⟨v0, T0, rfl, hb0, hr0, _, hf0⟩
  have hs0 : Hid (sz T0 = 1) := sz_of_items hf0
  have hB0 : Below w.heap.size w w0 := ((Below.refl _ _).alloc (Nat.le_refl _) _).trans (hb0.mono (by simp))
  clear hb0
  go_wp2_with fail
  refine (len_any hr0).mono ?_
  rintro e w' ⟨rfl, rfl⟩
  rw [hs0.out]
  go_wp2_with fail
  refine (of_full l1 (by have := h1.le; unfold maxLen at c1; omega)).mono ?_
  rintro e w' ⟨rfl, rfl⟩
  go_wp2_with fail
  refine (of_full l2 (by have := h2.le; unfold maxLen at c2; omega)).mono ?_
  rintro e w' ⟨rfl, rfl⟩
  go_wp2_with fail
  go_ret
  exact ⟨rfl, hB0⟩

set_option maxHeartbeats 1000000 in
theorem stays_no01 {a1 a2 : Option Addr} {n1 n2 m1 m2 : Nat} {xs ys : List Int} (i k : Int) {w : World} (h1 : IntsAt w a1 n1 m1 xs) (h2 : IntsAt w a2 n2 m2 ys) (c1 : m1 ≤ maxLen) (c2 : m2 ≤ maxLen) (l1 : 400 < n1) (l2 : n2 ≤ 400) :
    Calls Try.prog 4 #[.slice a1 n1 m1, .slice a2 n2 m2, .int .i64 i, .int .i64 k] w fun e w' => e = .returned (.bool true) ∧ Below w.heap.size w w' := by
  go_enter Try.func4, Try.ntmps4
  go_wp2_with fail
  refine (of_any (ints_one 7 _) (by omega) (by unfold maxLen; omega)).mono ?_
  rintro e w0 ⟨v0, T0, rfl, hb0, hr0, _, hf0⟩
  have hs0 : Hid (sz T0 = 1) := sz_of_items hf0
  have hB0 : Below w.heap.size w w0 := ((Below.refl _ _).alloc (Nat.le_refl _) _).trans (hb0.mono (by simp))
  clear hb0
  go_wp2_with fail
  refine (len_any hr0).mono ?_
  rintro e w' ⟨rfl, rfl⟩
  rw [hs0.out]
  go_wp2_with fail
  refine (of_full l1 (by have := h1.le; unfold maxLen at c1; omega)).mono ?_
  rintro e w' ⟨rfl, rfl⟩
  go_wp2_with fail
  refine (of_any (h2.below hB0) l2 c2).mono ?_
  rintro e w2 ⟨v2, T2, rfl, hb, hr2, hbal2, hi2⟩
  have hB2 := below_step hB0 hb
  clear hb
  go_wp2_with fail
  go_ret
  exact ⟨rfl, hB2⟩

set_option maxHeartbeats 1000000 in
theorem stays_no10 {a1 a2 : Option Addr} {n1 n2 m1 m2 : Nat} {xs ys : List Int} (i k : Int) {w : World} (h1 : IntsAt w a1 n1 m1 xs) (h2 : IntsAt w a2 n2 m2 ys) (c1 : m1 ≤ maxLen) (c2 : m2 ≤ maxLen) (l1 : n1 ≤ 400) (l2 : 400 < n2) :
    Calls Try.prog 4 #[.slice a1 n1 m1, .slice a2 n2 m2, .int .i64 i, .int .i64 k] w fun e w' => e = .returned (.bool true) ∧ Below w.heap.size w w' := by
  go_enter Try.func4, Try.ntmps4
  go_wp2_with fail
  refine (of_any (ints_one 7 _) (by omega) (by unfold maxLen; omega)).mono ?_
  rintro e w0 ⟨v0, T0, rfl, hb0, hr0, _, hf0⟩
  have hs0 : Hid (sz T0 = 1) := sz_of_items hf0
  have hB0 : Below w.heap.size w w0 := ((Below.refl _ _).alloc (Nat.le_refl _) _).trans (hb0.mono (by simp))
  clear hb0
  go_wp2_with fail
  refine (len_any hr0).mono ?_
  rintro e w' ⟨rfl, rfl⟩
  rw [hs0.out]
  go_wp2_with fail
  refine (of_any (h1.below hB0) l1 c1).mono ?_
  rintro e w1 ⟨v1, T1, rfl, hb, hr1, hbal1, hi1⟩
  have hB1 := below_step hB0 hb
  clear hb
  go_wp2_with fail
  refine (of_full l2 (by have := h2.le; unfold maxLen at c2; omega)).mono ?_
  rintro e w' ⟨rfl, rfl⟩
  go_wp2_with fail
  go_ret
  exact ⟨rfl, hB1⟩

set_option maxHeartbeats 4000000 in
theorem stays_yes {a1 a2 : Option Addr} {n1 n2 m1 m2 : Nat} {xs ys : List Int} (i k : Int) {w : World} (h1 : IntsAt w a1 n1 m1 xs) (h2 : IntsAt w a2 n2 m2 ys) (c1 : m1 ≤ maxLen) (c2 : m2 ≤ maxLen) (l1 : n1 ≤ 400) (l2 : n2 ≤ 400) :
    Calls Try.prog 4 #[.slice a1 n1 m1, .slice a2 n2 m2, .int .i64 i, .int .i64 k] w fun e w' => e = .returned (.bool true) ∧ Below w.heap.size w w' := by
  have e1 := h1.len
  have e2 := h2.len
  go_enter Try.func4, Try.ntmps4
  go_wp2_with fail
  refine (of_any (ints_one 7 _) (by omega) (by unfold maxLen; omega)).mono ?_
  rintro e w0 ⟨v0, T0, rfl, hb0, hr0, _, hf0⟩
  have hs0 : Hid (sz T0 = 1) := sz_of_items hf0
  have hB0 : Below w.heap.size w w0 := ((Below.refl _ _).alloc (Nat.le_refl _) _).trans (hb0.mono (by simp))
  clear hb0
  go_wp2_with fail
  refine (len_any hr0).mono ?_
  rintro e w' ⟨rfl, rfl⟩
  rw [hs0.out]
  go_wp2_with fail
  refine (of_any (h1.below hB0) l1 c1).mono ?_
  rintro e w1 ⟨v1, T1, rfl, hb, hr1, hbal1, hi1⟩
  have hB1 := below_step hB0 hb
  clear hb
  go_wp2_with fail
  refine (of_any (h2.below hB1) l2 c2).mono ?_
  rintro e w2 ⟨v2, T2, rfl, hb, hr2, hbal2, hi2⟩
  have hB2 := below_step hB1 hb
  replace hr1 := hr1.below hb
  clear hb
  go_wp2_with fail
  have hz1 : sz T1 ≤ 400 := by rw [sz_of_items hi1, e1]; exact l1
  have hz2 : sz T2 ≤ 400 := by rw [sz_of_items hi2, e2]; exact l2
  have HI1 : Hid (items T1 = xs) := hi1
  have HI2 : Hid (items T2 = ys) := hi2
  have HE1 : Hid (xs.length = n1) := e1
  have HE2 : Hid (ys.length = n2) := e2
  clear hi1 hi2 e1 e2
  go_loopw [15, 16, 17, 18, 19, 20, 21] (fun t _ _ _ _ _ _ wr => ∃ n : Nat, n ≤ 5 ∧ t = .int .i64 n ∧ Below w.heap.size w wr ∧ RowAt wr v1 T1 ∧ RowAt wr v2 T2) (fun t _ _ _ _ _ _ _ => 5 - (intOf t).toNat)
  case atStart => exact ⟨0, by omega, rfl, hB2, hr1, hr2⟩
  case round =>
    obtain ⟨n, hn, rfl, hB, hr1, hr2⟩ := hrel
    by_cases hlt : n < 5
    · go_wp2_with fail
      refine (split_out hr1 hbal1 hz1 i).mono ?_
      rintro e w3 ⟨vL, vH, L, H, err, rfl, hb, hrL, hrH, bL, bH, hLH, herr⟩
      replace hB := below_step hB hb
      replace hr1 := hr1.below hb
      replace hr2 := hr2.below hb
      clear hb
      rcases herr with rfl | rfl
      · go_wp2_with fail
        refine (join_out hrH hrL bH bL (by omega) (by omega)).mono ?_
        rintro e w4 ⟨vJ, J, err, rfl, hb, hrJ, bJ, sJ, herr⟩
        replace hB := below_step hB hb
        replace hr1 := hr1.below hb
        replace hr2 := hr2.below hb
        clear hb
        rcases herr with ⟨rfl, _⟩ | ⟨_, hbad⟩
        · go_wp2_with fail
          refine (split_out hrJ bJ sJ k).mono ?_
          rintro e w5 ⟨_, _, _, _, err, rfl, hb, _, _, _, _, _, herr⟩
          replace hB := below_step hB hb
          replace hr1 := hr1.below hb
          replace hr2 := hr2.below hb
          clear hb
          go_wp2_with fail
          refine (join_out hr1 hr2 hbal1 hbal2 hz1 hz2).mono ?_
          rintro e w6 ⟨vK, K, err, rfl, hb, hrK, bK, sK, herr⟩
          replace hB := below_step hB hb
          replace hr1 := hr1.below hb
          replace hr2 := hr2.below hb
          clear hb
          rcases herr with ⟨rfl, _⟩ | ⟨rfl, _⟩
          · go_wp2_with fail
            refine (split_out hrK bK sK k).mono ?_
            rintro e w7 ⟨_, _, _, _, err, rfl, hb, _, _, _, _, _, herr⟩
            replace hB := below_step hB hb
            replace hr1 := hr1.below hb
            replace hr2 := hr2.below hb
            clear hb
            go_wp2_with fail
            refine (join_out hr1 hr1 hbal1 hbal1 hz1 hz1).mono ?_
            rintro e w8 ⟨_, _, err, rfl, hb, _, _, _, herr⟩
            replace hB := below_step hB hb
            replace hr1 := hr1.below hb
            replace hr2 := hr2.below hb
            clear hb
            go_wp2_with fail
            go_roundw
            case rel => exact ⟨n + 1, by omega, by go_num, hB, hr1, hr2⟩
            case measure => simp [intOf]; omega
          · go_wp2_with fail
            refine (join_out hr1 hr1 hbal1 hbal1 hz1 hz1).mono ?_
            rintro e w8 ⟨_, _, err, rfl, hb, _, _, _, herr⟩
            replace hB := below_step hB hb
            replace hr1 := hr1.below hb
            replace hr2 := hr2.below hb
            clear hb
            go_wp2_with fail
            go_roundw
            case rel => exact ⟨n + 1, by omega, by go_num, hB, hr1, hr2⟩
            case measure => simp [intOf]; omega
        · omega
      · go_wp2_with fail
        refine (join_out hr1 hr2 hbal1 hbal2 hz1 hz2).mono ?_
        rintro e w6 ⟨vK, K, err, rfl, hb, hrK, bK, sK, herr⟩
        replace hB := below_step hB hb
        replace hr1 := hr1.below hb
        replace hr2 := hr2.below hb
        clear hb
        rcases herr with ⟨rfl, _⟩ | ⟨rfl, _⟩
        · go_wp2_with fail
          refine (split_out hrK bK sK k).mono ?_
          rintro e w7 ⟨_, _, _, _, err, rfl, hb, _, _, _, _, _, herr⟩
          replace hB := below_step hB hb
          replace hr1 := hr1.below hb
          replace hr2 := hr2.below hb
          clear hb
          go_wp2_with fail
          refine (join_out hr1 hr1 hbal1 hbal1 hz1 hz1).mono ?_
          rintro e w8 ⟨_, _, err, rfl, hb, _, _, _, herr⟩
          replace hB := below_step hB hb
          replace hr1 := hr1.below hb
          replace hr2 := hr2.below hb
          clear hb
          go_wp2_with fail
          go_roundw
          case rel => exact ⟨n + 1, by omega, by go_num, hB, hr1, hr2⟩
          case measure => simp [intOf]; omega
        · go_wp2_with fail
          refine (join_out hr1 hr1 hbal1 hbal1 hz1 hz1).mono ?_
          rintro e w8 ⟨_, _, err, rfl, hb, _, _, _, herr⟩
          replace hB := below_step hB hb
          replace hr1 := hr1.below hb
          replace hr2 := hr2.below hb
          clear hb
          go_wp2_with fail
          go_roundw
          case rel => exact ⟨n + 1, by omega, by go_num, hB, hr1, hr2⟩
          case measure => simp [intOf]; omega
    · go_wp2_with fail
      refine (list_any hr1 (by omega)).mono ?_
      rintro e w3 ⟨aP, capP, rfl, hb, hP⟩
      rw [HI1.out] at hP
      replace hB := below_step hB hb
      replace hr1 := hr1.below hb
      replace hr2 := hr2.below hb
      clear hb
      go_wp2_with fail
      refine (ints_any hP (h1.below hB) (by omega)).mono ?_
      rintro e w4 ⟨rfl, hb⟩
      replace hB := below_step hB hb
      replace hr1 := hr1.below hb
      replace hr2 := hr2.below hb
      clear hb
      go_wp2_with fail
      refine (list_any hr2 (by omega)).mono ?_
      rintro e w5 ⟨aQ, capQ, rfl, hb, hQ⟩
      rw [HI2.out] at hQ
      replace hB := below_step hB hb
      replace hr1 := hr1.below hb
      clear hb
      go_wp2_with fail
      refine (ints_any hQ (h2.below hB) (by omega)).mono ?_
      rintro e w6 ⟨rfl, hb⟩
      replace hB := below_step hB hb
      replace hr1 := hr1.below hb
      clear hb
      go_wp2_with fail
      refine (len_any hr1).mono ?_
      rintro e w' ⟨rfl, rfl⟩
      rw [show sz T1 = n1 from by rw [sz_of_items HI1.out, HE1.out]]
      go_wp2_with fail
      go_ret
      exact ⟨rfl, hB⟩

theorem stays_all {a1 a2 : Option Addr} {n1 n2 m1 m2 : Nat} {xs ys : List Int} (i k : Int) {w : World} (h1 : IntsAt w a1 n1 m1 xs) (h2 : IntsAt w a2 n2 m2 ys) (c1 : m1 ≤ maxLen) (c2 : m2 ≤ maxLen) :
    Calls Try.prog 4 #[.slice a1 n1 m1, .slice a2 n2 m2, .int .i64 i, .int .i64 k] w fun e w' => e = .returned (.bool true) ∧ Below w.heap.size w w' := by
  by_cases l1 : n1 ≤ 400
  · by_cases l2 : n2 ≤ 400
    · exact stays_yes i k h1 h2 c1 c2 l1 l2
    · exact stays_no10 i k h1 h2 c1 c2 l1 (by omega)
  · by_cases l2 : n2 ≤ 400
    · exact stays_no01 i k h1 h2 c1 c2 (by omega) l2
    · exact stays_no00 i k h1 h2 c1 c2 (by omega) (by omega)

end Go.Proofs.Ytpmkllmeilhakaa
