/-
  The small functions of package tour: has, step, only, joined, piece, edgeOf.
-/
import Derived.Test.YthhojlbfnffdeabGreatTm
namespace Go.Proofs.YthhojlbfnffdeabGreat
open Go.RowKit Go.Deep
set_option linter.unusedVariables false

variable {w w' : World} {L : Pl} {p : Nat → Nat} {DW DE : DataW Unit} {E : List (Nat × Nat)}

/-- Are all of these nodes? -/
def allIn (n : Nat) (xs : List Int) : Bool := xs.all fun x => decide (0 ≤ x) && decide (x < n)

theorem allIn_take {n : Nat} {xs : List Int} {k : Nat} (h : ∀ i, i < k → ∀ x, xs[i]? = some x → 0 ≤ x ∧ x < n) (hk : xs.length ≤ k) : allIn n xs = true := by
  unfold allIn
  rw [List.all_eq_true]
  intro x hx
  obtain ⟨i, hi, rfl⟩ := List.mem_iff_getElem.1 hx
  have := h i (by omega) _ (List.getElem?_eq_getElem hi)
  simp [this.1, this.2]

theorem allIn_not {n : Nat} {xs : List Int} {k : Nat} {x : Int} (hx : xs[k]? = some x) (hn : ¬ (0 ≤ x ∧ x < n)) : allIn n xs = false := by
  unfold allIn
  rw [Bool.eq_false_iff]
  intro h
  rw [List.all_eq_true] at h
  have := h x (List.mem_of_getElem? hx)
  simp at this
  exact hn this

set_option maxHeartbeats 400000 in
theorem has_any {n : Nat} (h : Mem w L p DW DE E) (hLn : L.n = n) (b : Nat) (xs : List Int) (hb : ∀ i x, xs[i]? = some x → w.cell? ⟨b, i, none⟩ = some (.int .i64 x)) (hm : xs.length < 1000) (c : Nat) :
    Calls Tryz.prog 35 #[.pointer (some ⟨L.g, 0, none⟩), .slice (some ⟨b, 0, none⟩) xs.length c] w fun e w' => e = .returned (.bool (allIn n xs)) ∧ w' = w := by
  have c0 := h.c0
  have hn := h.n60
  rw [hLn] at c0 hn
  have HB : Hid (∀ i x, xs[i]? = some x → w.cell? ⟨b, i, none⟩ = some (.int .i64 x)) := hb
  generalize L.hb = ba at c0
  generalize L.g = g at c0 ⊢
  clear h hb hLn
  go_enter Tryz.func35, Tryz.ntmps35
  go_wp2_with fail
  go_loopw [6, 9] (fun _ i wr => ∃ j : Nat, j ≤ xs.length ∧ i = .int .i64 (j : Nat) ∧ (∀ i, i < j → ∀ x, xs[i]? = some x → 0 ≤ x ∧ x < n) ∧ wr = w) (fun _ i _ => xs.length - (intOf i).toNat)
  case atStart => exact ⟨0, Nat.zero_le _, rfl, fun i hi => absurd hi (Nat.not_lt_zero _), rfl⟩
  case round =>
    obtain ⟨j, hj, rfl, hall, rfl⟩ := hrel
    by_cases hlt : j < xs.length
    · obtain ⟨x, hx⟩ : ∃ x, xs[j]? = some x := ⟨_, List.getElem?_eq_getElem hlt⟩
      have hc := HB.out j x hx
      have HA : Hid (∀ i, i < j → ∀ x, xs[i]? = some x → 0 ≤ x ∧ x < n) := hall
      clear hall
      have i0 : (0 : Int) ≤ (j : Int) := by omega
      have i1 : (j : Int) < (xs.length : Int) := by omega
      by_cases hin : 0 ≤ x ∧ x < n
      · obtain ⟨h1, h2⟩ := hin
        have HX : Hid (xs[j]? = some x) := hx
        clear hx
        go_wp2_with fail
        go_roundw
        case rel =>
          refine ⟨j + 1, by omega, by go_num, fun i hi y hy => ?_, by first | rfl | exact trivial⟩
          rcases Nat.lt_or_ge i j with h3 | h3
          · exact HA.out i h3 y hy
          · obtain rfl : i = j := by omega
            rw [HX.out] at hy
            cases hy
            exact ⟨h1, h2⟩
        case measure => simp [intOf]; omega
      · have HN : Hid (allIn n xs = false) := allIn_not hx hin
        clear hx
        by_cases h1 : 0 ≤ x
        · have h2 : (n : Int) ≤ x := by
            rcases Int.lt_or_le x n with h3 | h3
            · exact absurd ⟨h1, h3⟩ hin
            · exact h3
          clear hin
          go_wp2_with fail
          go_ret
          exact ⟨by rw [HN.out]; rfl, rfl⟩
        · have h2 : x < 0 := by omega
          clear hin
          go_wp2_with fail
          go_ret
          exact ⟨by rw [HN.out]; rfl, rfl⟩
    · have HN : Hid (allIn n xs = true) := allIn_take hall (by omega)
      clear hall
      go_wp2_with fail
      go_ret
      exact ⟨by rw [HN.out]; rfl, rfl⟩

set_option maxHeartbeats 400000 in
theorem step_any (h : Mem w L p DW DE E) (a b : Nat) (ha : a < L.n) (hb : b < L.n) :
    Calls Tryz.prog 38 #[.pointer (some ⟨L.g, 0, none⟩), .int .i64 (a : Int), .int .i64 (b : Int)] w fun e w' => e = .returned (.int .i64 (((a + 1) * L.n + b : Nat) : Int)) ∧ w' = w := by
  have c0 := h.c0
  have hn := h.n60
  have hE : Hid (((a : Int) + 1) * (L.n : Int) + (b : Int) = (((a + 1) * L.n + b : Nat) : Int)) := show _ = _ by push_cast; rfl
  have h0 : 0 ≤ ((a : Int) + 1) * (L.n : Int) := Int.mul_nonneg (by omega) (by omega)
  have h1 : ((a : Int) + 1) * (L.n : Int) ≤ 61 * 60 := Int.mul_le_mul (by omega) (by omega) (by omega) (by omega)
  generalize L.n = n at *
  generalize L.hb = ba at *
  generalize L.g = g at *
  clear h
  go_enter Tryz.func38, Tryz.ntmps38
  go_wp2_with fail
  go_ret
  exact ⟨by rw [← hE.out]; rfl, rfl⟩

set_option maxHeartbeats 400000 in
theorem only_any (x : Int) {w : World} :
    Calls Tryz.prog 34 #[.int .i64 x] w fun e w' => ∃ v T, e = .returned (.pointer v) ∧ Below w.heap.size w w' ∧ RowAt w' v T ∧ Bal T ∧ items T = [x] := by
  go_enter Tryz.func34, Tryz.ntmps34
  go_wp2_with fail
  refine (of_any (xs := [x]) ⟨rfl, Nat.le_refl _, fun i hi => ⟨_, 0, rfl, ?_⟩⟩ (by simp) (by unfold maxLen; simp)).mono ?_
  · obtain rfl : i = 0 := by simpa using hi
    simp
  rintro e w1 ⟨v, T, rfl, hb, hr, hB, hi⟩
  go_wp2_with fail
  go_ret
  exact ⟨v, T, rfl, below_step ((Below.refl _ _).alloc (Nat.le_refl _) _) hb, hr, hB, hi⟩

set_option maxHeartbeats 400000 in
theorem piece_any {v : Option Addr} {T : BT Int} {w : World} (h : RowAt w v T) (hb : Bal T) (hs : sz T ≤ 400) (i j : Nat) (hi : i ≤ j) (hj : j ≤ sz T) :
    Calls Tryz.prog 54 #[.pointer v, .int .i64 (i : Int), .int .i64 (j : Int)] w fun e w' => ∃ v1 T1, e = .returned (.pointer v1) ∧ Below w.heap.size w w' ∧ RowAt w' v1 T1 ∧ Bal T1 ∧ items T1 = ((items T).take j).drop i := by
  go_enter Tryz.func54, Tryz.ntmps54
  go_wp2_with fail
  refine (split_any h hb hs j hj).mono ?_
  rintro e w1 ⟨v1, v2, A, B, rfl, hb1, hr1, hr2, hq⟩
  have hz := hq.sizes hj
  go_wp2_with fail
  refine (split_any hr1 hq.bl (by omega) i (by omega)).mono ?_
  rintro e w2 ⟨v3, v4, C, D, rfl, hb2, hr3, hr4, hq2⟩
  go_wp2_with fail
  go_ret
  refine ⟨_, D, rfl, below_step hb1 hb2, hr4, hq2.bh, ?_⟩
  rw [hq2.high, hq.low]

set_option maxRecDepth 1000000 in
theorem Tryz.sizeEdge : (Tryz.prog.info? 41).map (·.size) = some 2 := by kernel_rfl

set_option maxRecDepth 100000 in
set_option maxHeartbeats 400000 in
theorem edgeOf_any (a b : Nat) (ha : a < 1000000) (hb : b < 1000000) {w : World} :
    Calls Tryz.prog 39 #[.int .i64 (a : Int), .int .i64 (b : Int)] w fun e w' => e = .returned (ev (min a b : Nat) (max a b : Nat)) ∧ w' = w.alloc (.cells #[.int .i64 (min a b : Nat), .int .i64 (max a b : Nat)] 41) := by
  obtain ⟨x, hx⟩ : ∃ x, x = min a b := ⟨_, rfl⟩
  obtain ⟨y, hy⟩ : ∃ y, y = max a b := ⟨_, rfl⟩
  have HX : Hid (x = min a b ∧ y = max a b) := ⟨hx, hy⟩
  rw [← hx, ← hy]
  clear hx hy
  go_enter Tryz.func39, Tryz.ntmps39
  go_wp2_with fail
  all_goals
    refine bodyPost_ret (results_cell_row rfl _ _ w.heap.size 41 _ (0, 0) _ rfl (heap_alloc_new _ _) Tryz.underlying41 rfl Tryz.sizeEdge) rfl ?_
    obtain ⟨hx, hy⟩ := HX.out
  · rw [show x = b by omega, show y = a by omega]; exact ⟨rfl, rfl⟩
  · rw [show x = a by omega, show y = b by omega]; exact ⟨rfl, rfl⟩
  · rw [show x = a by omega, show y = a by omega]; exact ⟨rfl, rfl⟩

end Go.Proofs.YthhojlbfnffdeabGreat
