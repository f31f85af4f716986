/-
  UnionBack: the walk of the statement.
-/
import Derived.Test.YtfnidfbogkfaeaaUb1
import Derived.Test.YtfnidfbogkfaeaaUb2
import Derived.Test.YtfnidfbogkfaeaaUb3
import Derived.Test.YtfnidfbogkfaeaaUb4
namespace Go.Proofs.Ytfnidfbogkfaeaa
open Go.RowKit Go.Deep
set_option linter.unusedVariables false

theorem parts_i {base n : Nat} {w : World} {g : Nat} {F : Nat → Prop} {L : List (Nat × Nat)} (h : UAt base n w g F L) :
    Calls Try.prog 17 #[.pointer (some ⟨g, 0, none⟩)] w fun e w' => e = .returned (.int .i64 ((n : Int) - (L.length : Nat))) ∧ Below w.heap.size w w' := by
  have hl := links_lt h.linked.1 h.linked.2.1
  refine (parts_u h).mono ?_
  rintro e w' ⟨rfl, hb⟩
  exact ⟨by rw [show ((n - L.length : Nat) : Int) = (n : Int) - (L.length : Nat) from by omega], hb⟩

theorem zero_ne_one : rt [] (0 : Int).toNat ≠ rt [] (1 : Int).toNat := by decide

set_option maxRecDepth 100000 in
set_option maxHeartbeats 4000000 in
theorem back_no {a b : Option Addr} {la ca lb cb : Nat} {w : World} (n : Int) (hn : n < 1 ∨ 60 < n) :
    Calls Try.prog 5 #[.int .i64 n, .slice a la ca, .slice b lb cb] w fun e w' => e = .returned (.bool true) ∧ Below w.heap.size w w' := by
  go_enter Try.func5, Try.ntmps5
  go_wp2_with fail
  refine (new_u (base := w.heap.size) (Nat.le_refl _) 3 (by omega) (by omega)).mono ?_
  rintro e w1 ⟨gz, Fz, rfl, hB, hu, _⟩
  go_wp2_with fail
  refine (join_u hu hB.size 0 1).mono ?_
  rintro e w2 ⟨x, err, F2, L2, rfl, hu2, hm2, hj, hx⟩
  have hy := hx ⟨by omega, by omega, by omega, by omega⟩
  clear hx
  obtain ⟨rfl, hz⟩ := hy
  obtain rfl := hz.2 zero_ne_one
  have hB2 := Moves.below hB hB.size (fun k hk => (hu.lt hk).2) hm2
  clear hz hB hm2 hu hj
  go_wp2_with fail
  refine (back_u hu2 0 (Nat.zero_le _)).mono ?_
  rintro e w3 ⟨F3, M, L3, rfl, _, h3, hu3, hm3⟩
  obtain rfl := List.eq_nil_of_length_eq_zero h3
  have hB3 := Moves.below hB2 hB2.size (fun k hk => (hu2.lt hk).2) hm3
  clear hm3 hu2 hB2 h3
  go_wp2_with fail
  refine (parts_u hu3).mono ?_
  rintro e w4 ⟨rfl, hB4⟩
  replace hB4 := below_step hB3 hB4
  clear hB3
  go_wp2_with fail
  refine (new_no n hn).mono ?_
  rintro e w5 ⟨rfl, rfl⟩
  go_wp2_with fail
  go_ret
  exact ⟨rfl, hB4⟩

theorem append_tail {L M M' L' : List (Nat × Nat)} (h : M ++ L = M' ++ L') (hl : L'.length = L.length) : L' = L := by
  have := List.append_inj' h (by omega)
  exact this.2.symm

set_option maxRecDepth 100000 in
set_option maxHeartbeats 8000000 in
theorem back_yes {a b : Option Addr} {la ca lb cb : Nat} {w : World} {f f2 : Nat → Int × Int} (hs1 : ScriptAt w a la f) (hs2 : ScriptAt w b lb f2) (n : Nat) (h1 : 1 ≤ n) (h2 : n ≤ 60) :
    Calls Try.prog 5 #[.int .i64 (n : Nat), .slice a la ca, .slice b lb cb] w fun e w' => e = .returned (.bool true) ∧ Below w.heap.size w w' := by
  go_enter Try.func5, Try.ntmps5
  go_wp2_with fail
  refine (new_u (base := w.heap.size) (Nat.le_refl _) 3 (by omega) (by omega)).mono ?_
  rintro e w1 ⟨gz, Fz, rfl, hB, hu, _⟩
  go_wp2_with fail
  refine (join_u hu hB.size 0 1).mono ?_
  rintro e w2 ⟨x, err, F2, L2, rfl, hu2, hm2, hj, hx⟩
  have hy := hx ⟨by omega, by omega, by omega, by omega⟩
  clear hx
  obtain ⟨rfl, hz⟩ := hy
  obtain rfl := hz.2 zero_ne_one
  have hB2 := Moves.below hB hB.size (fun k hk => (hu.lt hk).2) hm2
  clear hz hB hm2 hu hj
  go_wp2_with fail
  refine (back_u hu2 0 (Nat.zero_le _)).mono ?_
  rintro e w3 ⟨F3, M, L3, rfl, _, h3, hu3, hm3⟩
  obtain rfl := List.eq_nil_of_length_eq_zero h3
  have hB3 := Moves.below hB2 hB2.size (fun k hk => (hu2.lt hk).2) hm3
  clear hm3 hu2 hB2 h3
  go_wp2_with fail
  refine (parts_u hu3).mono ?_
  rintro e w4 ⟨rfl, hB4⟩
  replace hB4 := below_step hB3 hB4
  clear hB3 hu3
  go_wp2_with fail
  refine (new_u hB4.size n h1 h2).mono ?_
  rintro e w5 ⟨g, F, rfl, hB5, hu, _⟩
  replace hB5 := below_step hB4 hB5
  clear hB4
  go_wp2_with fail
  refine ba_loop (X := fun _ _ _ _ => True) hs1 (fun _ _ _ _ _ _ _ _ _ _ _ _ _ _ => trivial) hu hB5 trivial _ ?_ rfl
  clear hu hB5
  rintro m A w6 _ ⟨U, F, L, _, _, hu, hB, _, rfl⟩
  have hl := links_lt hu.linked.1 h1
  go_wp2_with fail
  refine (mark_u hu).mono ?_
  rintro e w7 ⟨rfl, rfl⟩
  go_wp2_with fail
  refine (parts_i hu).mono ?_
  rintro e w8 ⟨rfl, hB8⟩
  have hf : BW w n g F L w8 (.slice none 0 0) (triL L 0) := ⟨hu.below hB8, below_step hB hB8, World.ownsRow_nil _ _ _ _, fun k e => by cases e⟩
  clear hu hB hB8
  go_wp2_with fail
  refine bo_loop h2 hf _ ?_ rfl
  clear hf
  rintro A w9 ⟨U, v, _, hf, rfl⟩
  go_wp2_with fail
  refine bm_loop (X := fun _ w' F' L' => BW w n g F' L' w' v (triL L n) ∧ ∃ M, L' = M ++ L) hs2 (fun m w F L w' F' L' _ _ hx hu hm hu' hj => ?_) hf.u hf.below ⟨hf, [], rfl⟩ _ ?_ rfl
  · obtain ⟨hx, M, rfl⟩ := hx
    obtain ⟨M', hM⟩ := hj.more
    exact ⟨hx.moves hm hu', M' ++ M, by rw [hM, List.append_assoc]⟩
  clear hf
  rintro m A w10 _ ⟨U, F, L', _, _, hu, hB, ⟨hf, M, hM⟩, rfl⟩
  have hle : L.length ≤ L'.length := by rw [hM, List.length_append]; omega
  have HM : Hid (L' = M ++ L) := hM
  clear hM
  go_wp2_with fail
  refine (back_u hu L.length hle).mono ?_
  rintro e w11 ⟨F', M', L'', rfl, hM', hlen, hu', hm'⟩
  obtain rfl : L'' = L := append_tail (HM.out.symm.trans hM') hlen
  replace hf := hf.moves hm' hu'
  clear hM' hlen HM hle hm' hu hB hu'
  have hu := hf.u
  go_wp2_with fail
  refine (mark_u hu).mono ?_
  rintro e w12 ⟨rfl, rfl⟩
  go_wp2_with fail
  refine (parts_i hu).mono ?_
  rintro e w13 ⟨rfl, hB13⟩
  replace hf := hf.step hB13
  clear hB13 hu
  go_wp2_with fail
  refine co_loop (k := 0) h2 ⟨hf, rfl⟩ _ ?_ rfl
  clear hf
  rintro A w14 ⟨U, k, _, ⟨hf, _⟩, rfl⟩
  go_wp2_with fail
  go_ret
  exact ⟨rfl, hf.below⟩

theorem back_all {a b : Option Addr} {la ca lb cb : Nat} {w : World} {f f2 : Nat → Int × Int} (hs1 : ScriptAt w a la f) (hs2 : ScriptAt w b lb f2) (n : Int) :
    Calls Try.prog 5 #[.int .i64 n, .slice a la ca, .slice b lb cb] w fun e w' => e = .returned (.bool true) ∧ Below w.heap.size w w' := by
  by_cases hn : 1 ≤ n ∧ n ≤ 60
  · obtain ⟨k, rfl⟩ := Int.eq_ofNat_of_zero_le (by omega : 0 ≤ n)
    exact back_yes hs1 hs2 k (by omega) (by omega)
  · exact back_no n (by omega)

end Go.Proofs.Ytfnidfbogkfaeaa
