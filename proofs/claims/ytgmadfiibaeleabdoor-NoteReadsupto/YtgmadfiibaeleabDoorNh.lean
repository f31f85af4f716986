/-
  The statements' own events: EventOf, walked to its end.
-/
import Derived.Test.YtgmadfiibaeleabDoorNg
namespace Go.Proofs.YtgmadfiibaeleabDoor.Nt
open Go.RowKit Go.Deep Go.Proofs.YtgmadfiibaeleabDoor.Br
open Go.RowKit (Below)
set_option linter.unusedVariables false

variable {w w' : World}

theorem mark_byte {j : Nat} (hj : j < 3) (h : j < (ByteArray.mk #[43, 45, 63]).size) : (ByteArray.mk #[43, 45, 63])[j]'h = mark (j + 1) := by
  match j, hj with
  | 0, _ => rfl
  | 1, _ => rfl
  | 2, _ => rfl

theorem wh_step (c : UInt8) (j : Nat) : wh c (j + 1) = if mark (j + 1) = c then j + 1 else wh c j := rfl

set_option maxRecDepth 100000 in
set_option maxHeartbeats 1000000 in
theorem eventof_two (c : UInt8) (r p q : List UInt8) (hl : r.length ≤ 2000000) (hp : pieces r = [p, q]) : Calls Tryd.prog 45 #[.string (str (c :: r))] w fun e w' => Tells (c :: r) e ∧ Below w.heap.size w w' := by
  obtain ⟨N, hN⟩ : ∃ N, r.length = N := ⟨_, rfl⟩
  obtain ⟨s, hs⟩ : ∃ s, str (c :: r) = s := ⟨_, rfl⟩
  obtain ⟨N1, hN1⟩ : ∃ N1, N + 1 = N1 := ⟨_, rfl⟩
  have hsz : s.size = N1 := by rw [← hs, str_size, ← hN1, ← hN]; rfl
  have hex : s.extract 1 N1 = str r := by rw [← hs]; exact str_tail c r N1 (by omega)
  have g0 : ∀ h : 0 < s.size, s[0]'h = c := fun h => by subst hs; exact str_get (c :: r) 0 h
  have hsp := fun W => split_any (w := W) r hl
  rw [hp] at hsp
  have j1 : ¬ (N1 : Int) < 1 := by omega
  have j2 : (1 : Int) ≤ (N1 : Int) := by omega
  have j3 : (0 : Int) < (N1 : Int) := by omega
  obtain ⟨nf, hnf⟩ := num_fun
  have qn : ∀ (W : World) (l : List UInt8), Calls Tryd.prog 68 #[.string (str l)] W fun e w' => e = .returned (.int .i64 (nf l)) ∧ w' = W := fun W l => (number_any (w := W) l).mono fun e w' ⟨x, h1, h2, h3⟩ => ⟨by rw [h1, h2.one (hnf l)], h3⟩
  have HT : Hid ((EvOk (wh c 3 : Nat) (nf p) (nf q) → TextIs (c :: r) ((wh c 3 : Nat), nf p, nf q)) ∧ (¬ EvOk (wh c 3 : Nat) (nf p) (nf q) → ∀ z, ¬ TextIs (c :: r) z)) := tells_of hp (hnf p) (hnf q)
  rw [hs]
  clear hs hN hnf hp
  go_enter Tryd.func45, Tryd.ntmps45
  go_wp2_with fail
  refine (hsp _).mono ?_
  rintro e w1 ⟨v1, rfl, hown1, hb1⟩
  have hrow : w1.rowIs w.heap.size 70 3 (cells3 0 0 0) := (row3_new w 0 0 0).of_block (hb1.block _ (by simp))
  have HB1 : Hid (Below w.heap.size w w1) := below_step ((Below.refl _ _).alloc (Nat.le_refl _) _) hb1
  obtain ⟨g1, cap1, rfl, k0, k1, hg1⟩ := own_two hown1
  have HRow : Hid (w1.rowIs w.heap.size 70 3 (cells3 0 0 0)) := hrow
  have hbt : ∀ (x y : Int) (W : World), (Instr.build 70 #[(1, .int .i64 x), (2, .int .i64 y)]).run Tryd.prog W = .ok (.agg #[.int .i64 0, .int .i64 x, .int .i64 y]) W := fun x y W => run_build W 70 _ _ (by kernel_rfl)
  have hne : w1.heap.size ≠ g1 := by omega
  clear hsp hown1 hb1 hrow
  go_wp2_with fail
  go_region_held3 (fun V => V.cell? ⟨g1, 0, none⟩ = some (.string (str p)) ∧ V.cell? ⟨g1, 1, none⟩ = some (.string (str q))) (first | (go_keep; done) | exact ⟨k0, k1⟩)
    (first | (go_at_call 68; refine (qn _ _).mono ?_; rintro e w2 ⟨rfl, rfl⟩))
  all_goals
    have hW : Below w1.heap.size w1 (w1.alloc (.cells #[.int .i64 0, .int .i64 (nf p), .int .i64 (nf q)] 70)).drew := ((Below.refl _ _).alloc (Nat.le_refl _) _).drew
    have hR : (w1.alloc (.cells #[.int .i64 0, .int .i64 (nf p), .int .i64 (nf q)] 70)).drew.rowIs w1.heap.size 70 3 (cells3 (wh c 0 : Nat) (nf p) (nf q)) := row3_new w1 0 (nf p) (nf q)
    generalize (w1.alloc (.cells #[.int .i64 0, .int .i64 (nf p), .int .i64 (nf q)] 70)).drew = W2 at hW hR ⊢
    generalize nf p = x at *
    generalize nf q = y at *
    have HW : Hid (Below w1.heap.size w1 W2 ∧ W2.rowIs w1.heap.size 70 3 (cells3 (wh c 0 : Nat) x y)) := ⟨hW, hR⟩
    clear hW hR k0 k1 qn
    go_wp2_with fail
    go_loopw [6] (fun i wr => ∃ j : Nat, j ≤ 3 ∧ i = .int .i64 (j : Nat) ∧ Below w1.heap.size w1 wr ∧ wr.rowIs w1.heap.size 70 3 (cells3 (wh c j : Nat) x y)) (fun i _ => 3 - (intOf i).toNat)
    case atStart => exact ⟨0, by omega, rfl, HW.out⟩
    case round =>
      obtain ⟨j, hj, rfl, hb, hrow⟩ := hrel
      have HB : Hid (Below w1.heap.size w1 wr ∧ wr.rowIs w1.heap.size 70 3 (cells3 (wh c j : Nat) x y)) := ⟨hb, hrow⟩
      clear hb hrow
      by_cases hlt : j < 3
      · obtain ⟨m, hm⟩ : ∃ m, mark (j + 1) = m := ⟨_, rfl⟩
        have gm : ∀ h : j < (ByteArray.mk #[43, 45, 63]).size, (ByteArray.mk #[43, 45, 63])[j]'h = m := fun h => by rw [mark_byte hlt h, hm]
        have gz : (ByteArray.mk #[43, 45, 63]).size = 3 := rfl
        have i0 : (0 : Int) ≤ (j : Int) := by omega
        have i1 : (j : Int) < 3 := by omega
        have hw := wh_step c j
        rw [hm] at hw
        by_cases he : m = c
        · rw [if_pos he] at hw
          have HW2 : Hid (wh c (j + 1) = j + 1) := hw
          have t1 : ((m.toNat : Int) == (c.toNat : Int)) = true := by rw [he]; exact beq_self_eq_true _
          have t2 : (m.toNat == c.toNat) = true := by rw [he]; exact beq_self_eq_true _
          clear hw he hm
          go_wp2_with fail
          go_quiet (fail)
          have hb' : Below w1.heap.size w1 (wr.drewN nq) := below_step HB.out.1 (Br.below_drewN rfl)
          have hr' : (wr.drewN nq).rowIs w1.heap.size 70 3 (cells3 (wh c j : Nat) x y) := HB.out.2.of_block ((Br.below_drewN rfl).block _ HB.out.2.lt)
          generalize wr.drewN nq = W3 at hb' hr' ⊢
          have e0 := hr'.cell (i := 0) (by omega)
          have z0 := hr'.frozen
          have hwr : IntKind.i64.wrap ((j : Int) + 1) = ((j + 1 : Nat) : Int) := by rw [IntKind.wrap_i64]; omega
          have HX : Hid (Below w1.heap.size w1 (W3.setCell ⟨w1.heap.size, 0, none⟩ (.int .i64 ((j : Int) + 1))) ∧ (W3.setCell ⟨w1.heap.size, 0, none⟩ (.int .i64 ((j : Int) + 1))).rowIs w1.heap.size 70 3 (cells3 (wh c (j + 1) : Nat) x y)) := by
            rw [HW2.out]
            refine ⟨hb'.setCell (Nat.le_refl _) _, (hr'.set 0 _).congr fun i hi => ?_⟩
            match i, hi with
            | 0, _ => rfl
            | 1, _ => rfl
            | 2, _ => rfl
          clear hb' hr'
          go_wp2_with fail
          go_roundw
          case rel => exact ⟨j + 1, by omega, by go_num, HX.out⟩
          case measure => simp [intOf]; omega
        · rw [if_neg he] at hw
          have HW2 : Hid (wh c (j + 1) = wh c j) := hw
          have t1 : ((m.toNat : Int) == (c.toNat : Int)) = false := by rw [beq_eq_false_iff_ne]; exact fun q => he (u8_ext (by omega))
          have t2 : (m.toNat == c.toNat) = false := by rw [beq_eq_false_iff_ne]; exact fun q => he (u8_ext q)
          clear hw he hm
          go_wp2_with fail
          go_quiet (fail)
          have HX : Hid (Below w1.heap.size w1 (wr.drewN nq) ∧ (wr.drewN nq).rowIs w1.heap.size 70 3 (cells3 (wh c (j + 1) : Nat) x y)) := by
            rw [HW2.out]
            exact ⟨below_step HB.out.1 (Br.below_drewN rfl), HB.out.2.of_block ((Br.below_drewN rfl).block _ HB.out.2.lt)⟩
          go_wp2_with fail
          go_roundw
          case rel => exact ⟨j + 1, by omega, by go_num, HX.out⟩
          case measure => simp [intOf]; omega
      · obtain rfl : j = 3 := by omega
        have hE := HB.out.2
        have hR0 : wr.rowIs w.heap.size 70 3 (cells3 0 0 0) := HRow.out.of_block (HB.out.1.block _ HRow.out.lt)
        have HBw : Hid (Below w.heap.size w wr) := below_step HB1.out HB.out.1
        have HT2 := HT
        generalize wh c 3 = K at hE HT2
        clear HT HB
        have e0 : wr.cell? ⟨w1.heap.size, 0, none⟩ = some (.int .i64 (K : Nat)) := hE.cell (i := 0) (by omega)
        have e1 : wr.cell? ⟨w1.heap.size, 1, none⟩ = some (.int .i64 x) := hE.cell (i := 1) (by omega)
        have e2 : wr.cell? ⟨w1.heap.size, 2, none⟩ = some (.int .i64 y) := hE.cell (i := 2) (by omega)
        have HE : Hid (wr.rowIs w1.heap.size 70 3 (cells3 (K : Nat) x y) ∧ wr.rowIs w.heap.size 70 3 (cells3 0 0 0)) := ⟨hE, hR0⟩
        clear hE hR0
        by_cases hok : EvOk (K : Nat) x y
        · have hq := evfault_ok (w := wr) (K : Nat) x y hok
          unfold evv at hq
          have HT3 : Hid (TextIs (c :: r) ((K : Nat), x, y)) := HT2.out.1 hok
          clear hok HT2
          go_wp2_with fail
          refine hq.mono ?_
          rintro e w2 ⟨rfl, hb2⟩
          have f0 := cell_keep hb2 e0
          have f1 := cell_keep hb2 e1
          have f2 := cell_keep hb2 e2
          have hR2 : w2.rowIs w.heap.size 70 3 (cells3 0 0 0) := HE.out.2.of_block (hb2.block _ HE.out.2.lt)
          have g0 : w2.cell? ⟨w.heap.size, 0, none⟩ = some (.int .i64 0) := hR2.cell (i := 0) (by omega)
          have g1 : w2.cell? ⟨w.heap.size, 1, none⟩ = some (.int .i64 0) := hR2.cell (i := 1) (by omega)
          have g2 : w2.cell? ⟨w.heap.size, 2, none⟩ = some (.int .i64 0) := hR2.cell (i := 2) (by omega)
          have z0 := hR2.frozen
          have HR : Hid ((((w2.setCell ⟨w.heap.size, 0, none⟩ (.int .i64 (K : Nat))).setCell ⟨w.heap.size, 1, none⟩ (.int .i64 x)).setCell ⟨w.heap.size, 2, none⟩ (.int .i64 y)).rowIs w.heap.size 70 3 (cells3 (K : Nat) x y)) := row3_set hR2
          have HB2 : Hid (Below w.heap.size w (((w2.setCell ⟨w.heap.size, 0, none⟩ (.int .i64 (K : Nat))).setCell ⟨w.heap.size, 1, none⟩ (.int .i64 x)).setCell ⟨w.heap.size, 2, none⟩ (.int .i64 y))) := (((below_step HBw.out hb2).setCell (Nat.le_refl _) _).setCell (Nat.le_refl _) _).setCell (Nat.le_refl _) _
          clear hq e0 e1 e2 hb2 hR2
          go_wp2_with fail
          refine bodyPost_ret (results_row_tmp rfl _ _ w.heap.size 70 _ (0, 0) _ rfl (row3_block HR.out) Tryd.underlying70 rfl Tryd.sizeEvent) rfl ?_
          exact ⟨Or.inl ⟨_, _, _, HT3.out, rfl⟩, HB2.out⟩
        · have hq := evfault_no (w := wr) (K : Nat) x y hok
          unfold evv at hq
          have HT3 : Hid (∀ z, ¬ TextIs (c :: r) z) := HT2.out.2 hok
          clear hok HT2
          go_wp2_with fail
          refine hq.mono ?_
          rintro e w2 ⟨rfl, hb2⟩
          have hR2 : w2.rowIs w.heap.size 70 3 (cells3 0 0 0) := HE.out.2.of_block (hb2.block _ HE.out.2.lt)
          have g0 : w2.cell? ⟨w.heap.size, 0, none⟩ = some (.int .i64 0) := hR2.cell (i := 0) (by omega)
          have g1 : w2.cell? ⟨w.heap.size, 1, none⟩ = some (.int .i64 0) := hR2.cell (i := 1) (by omega)
          have g2 : w2.cell? ⟨w.heap.size, 2, none⟩ = some (.int .i64 0) := hR2.cell (i := 2) (by omega)
          have z0 := hR2.frozen
          have HR : Hid ((((w2.setCell ⟨w.heap.size, 0, none⟩ (.int .i64 0)).setCell ⟨w.heap.size, 1, none⟩ (.int .i64 0)).setCell ⟨w.heap.size, 2, none⟩ (.int .i64 0)).rowIs w.heap.size 70 3 (cells3 0 0 0)) := row3_set hR2
          have HB2 : Hid (Below w.heap.size w (((w2.setCell ⟨w.heap.size, 0, none⟩ (.int .i64 0)).setCell ⟨w.heap.size, 1, none⟩ (.int .i64 0)).setCell ⟨w.heap.size, 2, none⟩ (.int .i64 0))) := (((below_step HBw.out hb2).setCell (Nat.le_refl _) _).setCell (Nat.le_refl _) _).setCell (Nat.le_refl _) _
          clear hq e0 e1 e2 hb2 hR2
          go_wp2_with fail
          refine bodyPost_ret (results_row_tmp rfl _ _ w.heap.size 70 _ (0, 0) _ rfl (row3_block HR.out) Tryd.underlying70 rfl Tryd.sizeEvent) rfl ?_
          exact ⟨Or.inr ⟨HT3.out, rfl⟩, HB2.out⟩

/-- EventOf of any text. -/
theorem eventof_any (l : List UInt8) (hl : l.length ≤ 2000000) : Calls Tryd.prog 45 #[.string (str l)] w fun e w' => Tells l e ∧ Below w.heap.size w w' := by
  match l, hl with
  | [], _ => exact eventof_nil
  | c :: r, hl =>
    have hl' : r.length ≤ 2000000 := by rw [List.length_cons] at hl; omega
    by_cases h2 : (pieces r).length = 2
    · obtain ⟨p, q, e⟩ : ∃ p q, pieces r = [p, q] := by
        match hp : pieces r, h2 with
        | [p, q], _ => exact ⟨p, q, rfl⟩
      exact eventof_two c r p q hl' e
    · exact eventof_few c r hl' h2

end Go.Proofs.YtgmadfiibaeleabDoor.Nt
