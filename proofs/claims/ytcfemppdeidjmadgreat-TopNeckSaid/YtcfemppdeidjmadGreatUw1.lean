/-
  The functions of package union that only read: has, root, Parts, Mark.
-/
import Derived.Test.YtcfemppdeidjmadGreatUm
import Derived.Deep.LoopGhost
namespace Go.Proofs.YtcfemppdeidjmadGreat.Un
open Go.RowKit Go.Deep
set_option linter.unusedVariables false

theorem Lays.c0 {base n : Nat} {w : World} {g ba bs : Nat} {vj : Value} {L : List (Nat × Nat)} (h : Lays base n w g ba bs vj L) : w.cell? ⟨g, 0, none⟩ = some (.slice (some ⟨ba, 0, none⟩) n n) := h.st.cell (i := 0) (by omega)
theorem Lays.c1 {base n : Nat} {w : World} {g ba bs : Nat} {vj : Value} {L : List (Nat × Nat)} (h : Lays base n w g ba bs vj L) : w.cell? ⟨g, 1, none⟩ = some (.slice (some ⟨bs, 0, none⟩) n n) := h.st.cell (i := 1) (by omega)
theorem Lays.c2 {base n : Nat} {w : World} {g ba bs : Nat} {vj : Value} {L : List (Nat × Nat)} (h : Lays base n w g ba bs vj L) : w.cell? ⟨g, 2, none⟩ = some vj := h.st.cell (i := 2) (by omega)



set_option maxHeartbeats 400000 in
theorem root_any {base n : Nat} {w : World} {g ba bs : Nat} {vj : Value} {L : List (Nat × Nat)} (h : Lays base n w g ba bs vj L) (k : Nat) (hk : k < n) :
    Calls Tryz.prog 27 #[.pointer (some ⟨g, 0, none⟩), .int .i64 (k : Nat)] w fun e w' => e = .returned (.int .i64 (rt L k : Nat)) ∧ w' = w := by
  have c0 := h.c0
  have hn := h.n60
  have hl := h.linked
  have hab : ∀ i, i < n → w.cell? ⟨ba, i, none⟩ = some (.int .i64 (ab L i : Nat)) := fun i hi => h.above.cell hi
  clear h
  go_enter Tryz.func27, Tryz.ntmps27
  go_wp2_with fail
  go_loopw [1] (fun a wr => ∃ j : Nat, j < n ∧ a = .int .i64 (j : Nat) ∧ rt L j = rt L k ∧ wr = w) (fun a _ => ht L (intOf a).toNat)
  case atStart => exact ⟨k, hk, rfl, rfl, rfl⟩
  case round =>
    obtain ⟨j, hj, rfl, hr, rfl⟩ := hrel
    have hc := hab j hj
    have i0 : (0 : Int) ≤ (j : Int) := by omega
    have i1 : (j : Int) < (n : Int) := by omega
    have HR : Hid (rt L j = rt L k) := hr
    clear hr
    by_cases hroot : rt L j = j
    · have e : (((ab L j : Nat) : Int) != (j : Int)) = false := by rw [bne_eq_false_iff_eq, ab_root hl j hroot]
      have HJ : Hid (rt L j = j) := hroot
      clear hroot
      go_wp2_with fail
      go_ret
      exact ⟨by rw [← HR.out, HJ.out]; rfl, rfl⟩
    · obtain ⟨s1, s2, s3, s4⟩ := ab_step hl j hroot
      have e : (((ab L j : Nat) : Int) != (j : Int)) = true := by rw [bne_iff_ne]; omega
      have S2 : Hid (rt L (ab L j) = rt L j) := s2
      have S3 : Hid (ht L (ab L j) < ht L j) := s3
      have S4 : Hid (ab L j < n) := s4 hj
      clear s1 s2 s3 s4 hroot
      go_wp2_with fail
      go_roundw
      case rel => exact ⟨ab L j, S4.out, rfl, S2.out.trans HR.out, by first | rfl | exact trivial⟩
      case measure => simp [intOf]; exact S3.out

/-- Are all of these nodes? -/
def allIn (n : Nat) (xs : List Int) : Bool := xs.all fun x => decide (0 ≤ x) && decide (x < n)

theorem allIn_take {n : Nat} {xs : List Int} {k : Nat} (h : ∀ i, i < k → ∀ x, xs[i]? = some x → 0 ≤ x ∧ x < n) (hk : xs.length ≤ k) : allIn n xs = true := by
  unfold allIn
  rw [List.all_eq_true]
  intro x hx
  obtain ⟨i, hi, rfl⟩ := List.mem_iff_getElem.1 hx
  have := h i (by omega) _ (List.getElem?_eq_getElem hi)
  simp [this.1, this.2]

theorem allIn_not {n : Nat} {xs : List Int} {k : Nat} {x : Int} (hx : xs[k]? = some x) (hn : ¬ (0 ≤ x ∧ x < n)) : allIn n xs = false := by
  unfold allIn
  rw [Bool.eq_false_iff]
  intro h
  rw [List.all_eq_true] at h
  have := h x (List.mem_of_getElem? hx)
  simp at this
  exact hn this

set_option maxHeartbeats 400000 in
theorem has_any {base n : Nat} {w : World} {g ba bs : Nat} {vj : Value} {L : List (Nat × Nat)} (h : Lays base n w g ba bs vj L) (b : Nat) (xs : List Int) (hb : ∀ i x, xs[i]? = some x → w.cell? ⟨b, i, none⟩ = some (.int .i64 x)) (hm : xs.length < 1000) (c : Nat) :
    Calls Tryz.prog 26 #[.pointer (some ⟨g, 0, none⟩), .slice (some ⟨b, 0, none⟩) xs.length c] w fun e w' => e = .returned (.bool (allIn n xs)) ∧ w' = w := by
  have c0 := h.c0
  have hn := h.n60
  have HB : Hid (∀ i x, xs[i]? = some x → w.cell? ⟨b, i, none⟩ = some (.int .i64 x)) := hb
  clear h hb
  go_enter Tryz.func26, Tryz.ntmps26
  go_wp2_with fail
  go_loopw [6, 9] (fun _ i wr => ∃ j : Nat, j ≤ xs.length ∧ i = .int .i64 (j : Nat) ∧ (∀ i, i < j → ∀ x, xs[i]? = some x → 0 ≤ x ∧ x < n) ∧ wr = w) (fun _ i _ => xs.length - (intOf i).toNat)
  case atStart => exact ⟨0, Nat.zero_le _, rfl, fun i hi => absurd hi (Nat.not_lt_zero _), rfl⟩
  case round =>
    obtain ⟨j, hj, rfl, hall, rfl⟩ := hrel
    by_cases hlt : j < xs.length
    · obtain ⟨x, hx⟩ : ∃ x, xs[j]? = some x := ⟨_, List.getElem?_eq_getElem hlt⟩
      have hc := HB.out j x hx
      have HA : Hid (∀ i, i < j → ∀ x, xs[i]? = some x → 0 ≤ x ∧ x < n) := hall
      clear hall
      have i0 : (0 : Int) ≤ (j : Int) := by omega
      have i1 : (j : Int) < (xs.length : Int) := by omega
      by_cases hin : 0 ≤ x ∧ x < n
      · obtain ⟨h1, h2⟩ := hin
        have HX : Hid (xs[j]? = some x) := hx
        clear hx
        go_wp2_with fail
        go_roundw
        case rel =>
          refine ⟨j + 1, by omega, by go_num, fun i hi y hy => ?_, by first | rfl | exact trivial⟩
          rcases Nat.lt_or_ge i j with h3 | h3
          · exact HA.out i h3 y hy
          · obtain rfl : i = j := by omega
            rw [HX.out] at hy
            cases hy
            exact ⟨h1, h2⟩
        case measure => simp [intOf]; omega
      · have HN : Hid (allIn n xs = false) := allIn_not hx hin
        clear hx
        by_cases h1 : 0 ≤ x
        · have h2 : (n : Int) ≤ x := by
            rcases Int.lt_or_le x n with h3 | h3
            · exact absurd ⟨h1, h3⟩ hin
            · exact h3
          clear hin
          go_wp2_with fail
          go_ret
          exact ⟨by rw [HN.out]; rfl, rfl⟩
        · have h2 : x < 0 := by omega
          clear hin
          go_wp2_with fail
          go_ret
          exact ⟨by rw [HN.out]; rfl, rfl⟩
    · have HN : Hid (allIn n xs = true) := allIn_take hall (by omega)
      clear hall
      go_wp2_with fail
      go_ret
      exact ⟨by rw [HN.out]; rfl, rfl⟩

end Go.Proofs.YtcfemppdeidjmadGreat.Un
