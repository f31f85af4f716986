/-
  New of package union.
-/
import Derived.Test.YtcfemppdeidjmadGreatUw1
namespace Go.Proofs.YtcfemppdeidjmadGreat.Un
open Go.RowKit Go.Deep
set_option linter.unusedVariables false

set_option maxHeartbeats 400000 in
theorem new_no {w : World} (n : Int) (hn : n < 1 ∨ 60 < n) :
    Calls Tryz.prog 7 #[.int .i64 n] w fun e w' => e = .returned (.tuple #[.pointer none, .iface 66 (.int .i64 1)]) ∧ w' = w := by
  rcases hn with hn | hn
  · go_enter Tryz.func7, Tryz.ntmps7
    go_wp2_with fail
    go_ret2
    exact ⟨rfl, rfl⟩
  · have h1 : ¬ n < 1 := by omega
    go_enter Tryz.func7, Tryz.ntmps7
    go_wp2_with fail
    go_ret2
    exact ⟨rfl, rfl⟩

/-- Where the loop of New stands. -/
structure Made (base n : Nat) (w0 w : World) (g ba bs k : Nat) : Prop where
  below : Below base w0 w
  st : w.rowIs g 70 3 (parts3 n ba bs (.slice none 0 0))
  above : w.rowIs ba 3 n (fun i => if i < k then .int .i64 (i : Nat) else .int .i64 0)
  size : w.rowIs bs 3 n (fun i => if i < k then .int .i64 1 else .int .i64 0)
  ne1 : g ≠ ba
  ne2 : g ≠ bs
  ne3 : ba ≠ bs
  bg : base ≤ g
  bb : base ≤ ba
  bz : base ≤ bs

theorem Made.step {base n : Nat} {w0 w : World} {g ba bs k : Nat} (h : Made base n w0 w g ba bs k) : Made base n w0 ((w.setCell ⟨ba, k, none⟩ (.int .i64 (k : Nat))).setCell ⟨bs, k, none⟩ (.int .i64 1)) g ba bs (k + 1) := by
  refine ⟨(h.below.setCell h.bb _).setCell h.bz _, (h.st.setOther (by exact h.ne1) _).setOther (by exact h.ne2) _, ?_, ?_, h.ne1, h.ne2, h.ne3, h.bg, h.bb, h.bz⟩
  · refine ((h.above.set k _).setOther (by exact h.ne3) _).congr fun i hi => ?_
    by_cases e : i = k
    · subst e; simp
    · by_cases e2 : i < k
      · simp [e, e2, Nat.lt_succ_of_lt e2]
      · have : ¬ i < k + 1 := by omega
        simp [e, e2, this]
  · refine ((h.size.setOther (a := ⟨ba, k, none⟩) (fun e => h.ne3 e.symm) _).set k _).congr fun i hi => ?_
    by_cases e : i = k
    · subst e; simp
    · by_cases e2 : i < k
      · simp [e, e2, Nat.lt_succ_of_lt e2]
      · have : ¬ i < k + 1 := by omega
        simp [e, e2, this]

theorem Made.drew {base n : Nat} {w0 w : World} {g ba bs k : Nat} (h : Made base n w0 w g ba bs k) : Made base n w0 w.drew g ba bs k :=
  ⟨h.below.drew, h.st, h.above, h.size, h.ne1, h.ne2, h.ne3, h.bg, h.bb, h.bz⟩

theorem Made.step' {base n : Nat} {w0 w : World} {g ba bs k : Nat} (h : Made base n w0 w g ba bs k) : Made base n w0 ((w.setCell ⟨bs, k, none⟩ (.int .i64 1)).setCell ⟨ba, k, none⟩ (.int .i64 (k : Nat))) g ba bs (k + 1) := by
  refine ⟨(h.below.setCell h.bz _).setCell h.bb _, (h.st.setOther (by exact h.ne2) _).setOther (by exact h.ne1) _, ?_, ?_, h.ne1, h.ne2, h.ne3, h.bg, h.bb, h.bz⟩
  · refine ((h.above.setOther (a := ⟨bs, k, none⟩) (by exact h.ne3) _).set k _).congr fun i hi => ?_
    by_cases e : i = k
    · subst e; simp
    · by_cases e2 : i < k
      · simp [e, e2, Nat.lt_succ_of_lt e2]
      · have : ¬ i < k + 1 := by omega
        simp [e, e2, this]
  · refine ((h.size.set k _).setOther (a := ⟨ba, k, none⟩) (fun e => h.ne3 e.symm) _).congr fun i hi => ?_
    by_cases e : i = k
    · subst e; simp
    · by_cases e2 : i < k
      · simp [e, e2, Nat.lt_succ_of_lt e2]
      · have : ¬ i < k + 1 := by omega
        simp [e, e2, this]

theorem made_one {base : Nat} {w : World} (hb : base ≤ w.heap.size) (n : Nat) : Made base n w (((w.alloc (.cells (madeCells #[.int .i64 0] n) 3)).alloc (.cells (madeCells #[.int .i64 0] n) 3)).alloc
    (.cells #[.slice (some ⟨w.heap.size, 0, none⟩) n n, .slice (some ⟨w.heap.size + 1, 0, none⟩) n n, .slice none 0 0] 70)).drew (w.heap.size + 1 + 1) w.heap.size (w.heap.size + 1) 0 := by
  have e1 : (w.alloc (.cells (madeCells #[.int .i64 0] n) 3)).heap.size = w.heap.size + 1 := by simp
  have e2 : ((w.alloc (.cells (madeCells #[.int .i64 0] n) 3)).alloc (.cells (madeCells #[.int .i64 0] n) 3)).heap.size = w.heap.size + 1 + 1 := by simp
  refine Made.drew ⟨(((Below.refl base w).alloc hb _).alloc (by rw [e1]; omega) _).alloc (by rw [e2]; omega) _, ?_, ?_, ?_, by omega, by omega, by omega, by omega, by omega, by omega⟩
  · have := World.rowIs_alloc ((w.alloc (.cells (madeCells #[.int .i64 0] n) 3)).alloc (.cells (madeCells #[.int .i64 0] n) 3)) #[.slice (some ⟨w.heap.size, 0, none⟩) n n, .slice (some ⟨w.heap.size + 1, 0, none⟩) n n, .slice none 0 0] 70 (parts3 n w.heap.size (w.heap.size + 1) (.slice none 0 0)) (fun i hi => by
      rcases i with _ | _ | _ | i
      · rfl
      · rfl
      · rfl
      · simp at hi; omega)
    rwa [e2] at this
  · exact (((World.rowIs_made w (.int .i64 0) n 3).alloc _).alloc _).congr fun i _ => by simp
  · have := (World.rowIs_made (w.alloc (.cells (madeCells #[.int .i64 0] n) 3)) (.int .i64 0) n 3)
    rw [e1] at this
    exact (this.alloc _).congr fun i _ => by simp

theorem made_two {base : Nat} {w : World} (hb : base ≤ w.heap.size) (n : Nat) : Made base n w (((w.alloc (.cells (madeCells #[.int .i64 0] n) 3)).alloc (.cells (madeCells #[.int .i64 0] n) 3)).alloc
    (.cells #[.slice (some ⟨w.heap.size + 1, 0, none⟩) n n, .slice (some ⟨w.heap.size, 0, none⟩) n n, .slice none 0 0] 70)).drew (w.heap.size + 1 + 1) (w.heap.size + 1) w.heap.size 0 := by
  have e1 : (w.alloc (.cells (madeCells #[.int .i64 0] n) 3)).heap.size = w.heap.size + 1 := by simp
  have e2 : ((w.alloc (.cells (madeCells #[.int .i64 0] n) 3)).alloc (.cells (madeCells #[.int .i64 0] n) 3)).heap.size = w.heap.size + 1 + 1 := by simp
  refine Made.drew ⟨(((Below.refl base w).alloc hb _).alloc (by rw [e1]; omega) _).alloc (by rw [e2]; omega) _, ?_, ?_, ?_, by omega, by omega, by omega, by omega, by omega, by omega⟩
  · have := World.rowIs_alloc ((w.alloc (.cells (madeCells #[.int .i64 0] n) 3)).alloc (.cells (madeCells #[.int .i64 0] n) 3)) #[.slice (some ⟨w.heap.size + 1, 0, none⟩) n n, .slice (some ⟨w.heap.size, 0, none⟩) n n, .slice none 0 0] 70 (parts3 n (w.heap.size + 1) w.heap.size (.slice none 0 0)) (fun i hi => by
      rcases i with _ | _ | _ | i
      · rfl
      · rfl
      · rfl
      · simp at hi; omega)
    rwa [e2] at this
  · have := (World.rowIs_made (w.alloc (.cells (madeCells #[.int .i64 0] n) 3)) (.int .i64 0) n 3)
    rw [e1] at this
    exact (this.alloc _).congr fun i _ => by simp
  · exact (((World.rowIs_made w (.int .i64 0) n 3).alloc _).alloc _).congr fun i _ => by simp

theorem Lays.mono {base base' n : Nat} {w : World} {g ba bs : Nat} {vj : Value} {L : List (Nat × Nat)} (h : Lays base n w g ba bs vj L) (hb : base' ≤ base) : Lays base' n w g ba bs vj L := by
  refine ⟨h.st, h.above, h.size, ⟨h.joined.1, ?_⟩, h.linked, h.n1, h.n60, h.ne1, h.ne2, h.ne3, h.apart, Nat.le_trans hb h.bg, Nat.le_trans hb h.bb, Nat.le_trans hb h.bz⟩
  rcases h.joined.2 with h0 | ⟨g, cap, cur, hv, h1, h2⟩
  · exact Or.inl h0
  · exact Or.inr ⟨g, cap, cur, hv, Nat.le_trans hb h1, h2⟩

theorem Made.done {base n : Nat} {w0 w : World} {g ba bs : Nat} (h : Made base n w0 w g ba bs n) (h1 : 1 ≤ n) (h2 : n ≤ 60) : Lays base n w g ba bs (.slice none 0 0) [] :=
  ⟨h.st, h.above.congr fun i hi => by simp [hi, ab], h.size.congr fun i hi => by simp [hi, cz], ⟨rfl, Or.inl ⟨rfl, rfl⟩⟩, trivial, h1, h2, h.ne1, h.ne2, h.ne3, (fun k e => by cases e), h.bg, h.bb, h.bz⟩

set_option maxHeartbeats 1000000 in
theorem new_any {base : Nat} {w : World} (hb : base ≤ w.heap.size) (n : Nat) (h1 : 1 ≤ n) (h2 : n ≤ 60) :
    Calls Tryz.prog 7 #[.int .i64 (n : Nat)] w fun e w' => ∃ g ba bs, e = .returned (.tuple #[.pointer (some ⟨g, 0, none⟩), .nilIface]) ∧ Below w.heap.size w w' ∧ Lays base n w' g ba bs (.slice none 0 0) [] ∧ w.heap.size ≤ g ∧ w.heap.size ≤ ba ∧ w.heap.size ≤ bs := by
  have hmk := run_make_row' (P := Tryz.prog) 44 3 (.int .i64 0) 8 Tryz.underlying44 Tryz.infoInt rfl .i64 .i64 n (by omega) (by omega)
  go_enter Tryz.func7, Tryz.ntmps7
  go_wp2_with fail
  go_region
  · go_wp2_with fail
    go_loopw [5, 20] (fun _ i wr => ∃ k : Nat, k ≤ n ∧ i = .int .i64 (k : Nat) ∧ Made w.heap.size n w wr (w.heap.size + 1 + 1) w.heap.size (w.heap.size + 1) k) (fun _ i _ => n - (intOf i).toNat)
    case atStart => exact ⟨0, Nat.zero_le _, rfl, made_one (Nat.le_refl _) n⟩
    case round =>
      obtain ⟨k, hk, rfl, hM⟩ := hrel
      clear hmk
      by_cases hlt : k < n
      · have c0 : wr.cell? ⟨w.heap.size + 1 + 1, 0, none⟩ = some (.slice (some ⟨w.heap.size, 0, none⟩) n n) := hM.st.cell (i := 0) (by omega)
        have c1 : wr.cell? ⟨w.heap.size + 1 + 1, 1, none⟩ = some (.slice (some ⟨w.heap.size + 1, 0, none⟩) n n) := hM.st.cell (i := 1) (by omega)
        have d1 : wr.cell? ⟨w.heap.size, k, none⟩ = some (.int .i64 0) := by rw [hM.above.cell hlt]; simp
        have d2 : wr.cell? ⟨w.heap.size + 1, k, none⟩ = some (.int .i64 0) := by rw [hM.size.cell hlt]; simp
        have f1 := hM.above.frozen k
        have f2 := hM.size.frozen k
        have i0 : (0 : Int) ≤ (k : Int) := by omega
        have i1 : (k : Int) < (n : Int) := by omega
        go_wp2_with fail
        go_region
        all_goals go_wp2_with fail
        all_goals exact ⟨⟨k + 1, by omega, by go_num, hM.step.drew⟩, by simp [intOf]; omega⟩
      · go_wp2_with fail
        go_ret2
        obtain rfl : k = n := by omega
        exact ⟨_, _, _, rfl, hM.below, (hM.done h1 h2).mono hb, hM.bg, hM.bb, hM.bz⟩
  · go_wp2_with fail
    go_loopw [5, 20] (fun _ i wr => ∃ k : Nat, k ≤ n ∧ i = .int .i64 (k : Nat) ∧ Made w.heap.size n w wr (w.heap.size + 1 + 1) (w.heap.size + 1) w.heap.size k) (fun _ i _ => n - (intOf i).toNat)
    case atStart => exact ⟨0, Nat.zero_le _, rfl, made_two (Nat.le_refl _) n⟩
    case round =>
      obtain ⟨k, hk, rfl, hM⟩ := hrel
      clear hmk
      by_cases hlt : k < n
      · have c0 : wr.cell? ⟨w.heap.size + 1 + 1, 0, none⟩ = some (.slice (some ⟨w.heap.size + 1, 0, none⟩) n n) := hM.st.cell (i := 0) (by omega)
        have c1 : wr.cell? ⟨w.heap.size + 1 + 1, 1, none⟩ = some (.slice (some ⟨w.heap.size, 0, none⟩) n n) := hM.st.cell (i := 1) (by omega)
        have d1 : wr.cell? ⟨w.heap.size + 1, k, none⟩ = some (.int .i64 0) := by rw [hM.above.cell hlt]; simp
        have d2 : wr.cell? ⟨w.heap.size, k, none⟩ = some (.int .i64 0) := by rw [hM.size.cell hlt]; simp
        have f1 := hM.above.frozen k
        have f2 := hM.size.frozen k
        have i0 : (0 : Int) ≤ (k : Int) := by omega
        have i1 : (k : Int) < (n : Int) := by omega
        go_wp2_with fail
        go_region
        all_goals go_wp2_with fail
        all_goals exact ⟨⟨k + 1, by omega, by go_num, hM.step.drew⟩, by simp [intOf]; omega⟩
      · go_wp2_with fail
        go_ret2
        obtain rfl : k = n := by omega
        exact ⟨_, _, _, rfl, hM.below, (hM.done h1 h2).mono hb, hM.bg, hM.bb, hM.bz⟩

end Go.Proofs.YtcfemppdeidjmadGreat.Un
