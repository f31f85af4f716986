/-
  The statements' own answer: an edge put where it belongs into a rising list.
-/
import Derived.Test.YtcfemppdeidjmacGreatDoorF16
namespace Go.Proofs.YtcfemppdeidjmacGreatDoor.Br
open Go.RowKit Go.Deep
open Go.RowKit (Below)
set_option linter.unusedVariables false

variable {w w' : World} {E E' : List (Nat × Nat)}

theorem take_getD (F : List (Nat × Nat)) (j : Nat) (h : j < F.length) : F.take (j + 1) = F.take j ++ [F.getD j (0, 0)] := by
  rw [List.take_succ_eq_append_getElem h, List.getD_eq_getElem?_getD, List.getElem?_eq_getElem h]
  rfl

theorem mid_get (A B : List (Nat × Nat)) (e : Nat × Nat) (j : Nat) : (j < A.length → (A ++ e :: B).getD j (0, 0) = (A ++ B).getD j (0, 0)) ∧ (A.length ≤ j → (A ++ e :: B).getD (j + 1) (0, 0) = (A ++ B).getD j (0, 0)) ∧ (A ++ e :: B).getD A.length (0, 0) = e := by
  refine ⟨fun h => ?_, fun h => ?_, ?_⟩
  · simp only [List.getD_eq_getElem?_getD]
    rw [List.getElem?_append_left h, List.getElem?_append_left h]
  · simp only [List.getD_eq_getElem?_getD]
    rw [List.getElem?_append_right (by omega), List.getElem?_append_right h, show j + 1 - A.length = j - A.length + 1 by omega, List.getElem?_cons_succ]
  · simp [List.getD_eq_getElem?_getD]

set_option maxRecDepth 100000 in
set_option maxHeartbeats 4000000 in
theorem put_any {a : Option Addr} {n c x y : Nat} {A B : List (Nat × Nat)} (hE : EdgesAt w a (A ++ B)) (hn : (A ++ B).length = n) (hn2 : n < 1000000) (i1 i2 : Int) (h1 : ((x : Nat) : Int) = min i1 i2) (h2 : ((y : Nat) : Int) = max i1 i2) (hr : Up (A ++ (x, y) :: B)) :
    Calls Tryz.prog 33 #[.slice a n c, .int .i64 i1, .int .i64 i2] w fun e w' => ∃ v, e = .returned v ∧ Below w.heap.size w w' ∧ w'.ownsRow w.heap.size 92 2 v (n + 1) (twos (A ++ (x, y) :: B)) := by
  obtain ⟨z0, hi0, hz0, hz1, hz2⟩ := info_parts Tryz.infoEdge
  obtain ⟨F, hF⟩ : ∃ F, A ++ (x, y) :: B = F := ⟨_, rfl⟩
  obtain ⟨m, hm⟩ : ∃ m, A.length = m := ⟨_, rfl⟩
  have hmn : m ≤ n := by rw [← hm, ← hn]; simp
  have HL : Hid (F.length = n + 1) := show F.length = n + 1 by rw [← hF, ← hn]; simp; omega
  have HC : Hid (∀ i, i < n → ∃ b o u v, a = some ⟨b, o, none⟩ ∧ w.cell? ⟨b, o + i * 2, none⟩ = some (.int .i64 (u : Nat)) ∧ w.cell? ⟨b, o + i * 2 + 1, none⟩ = some (.int .i64 (v : Nat)) ∧ (i < m → F.getD i (0, 0) = (u, v) ∧ (u < x ∨ u = x ∧ v < y)) ∧ (m ≤ i → F.getD (i + 1) (0, 0) = (u, v)) ∧ (i = m → x < u ∨ x = u ∧ y < v)) := fun i hi => by
    obtain ⟨b, o, e, q1, q2⟩ := hE.cell i (by omega)
    obtain ⟨g1, g2, -⟩ := mid_get A B (x, y) i
    rw [hF, hm] at g1 g2
    refine ⟨b, o, _, _, e, q1, q2, fun h => ⟨g1 h, ?_⟩, g2, fun h => ?_⟩
    · have hp := List.pairwise_append.1 hr
      have h3 : (A ++ B).getD i (0, 0) ∈ A := by
        rw [List.getD_eq_getElem?_getD, List.getElem?_append_left (by omega), List.getElem?_eq_getElem (by omega)]
        exact List.getElem_mem _
      exact hp.2.2 _ h3 (x, y) (List.mem_cons_self ..)
    · have hp := (List.pairwise_cons.1 (List.pairwise_append.1 hr).2.1).1
      have hl : (A ++ B).length = A.length + B.length := by simp
      have h3 : (A ++ B).getD i (0, 0) ∈ B := by
        rw [List.getD_eq_getElem?_getD, List.getElem?_append_right (by omega), List.getElem?_eq_getElem (by omega)]
        exact List.getElem_mem _
      have := hp _ h3
      exact this
  have HF1 : Hid (F.getD m (0, 0) = (x, y)) := show _ = _ by rw [← hF, ← hm]; exact (mid_get A B (x, y) 0).2.2
  rw [hF]
  have HQ : Hid (min i1 i2 = (x : Int) ∧ max i1 i2 = (y : Int)) := ⟨h1.symm, h2.symm⟩
  clear hE hn hr hF hm h1 h2
  go_enter Tryz.func33, Tryz.ntmps33
  go_wp2_with fail
  refine (of_edge i1 i2).mono ?_
  rintro e w1 ⟨rfl, rfl⟩
  rw [HQ.out.1, HQ.out.2]
  dsimp only [ev]
  go_wp2_with fail
  have hb2 : Below w.heap.size w ((w.alloc (.cells #[.int .i64 (x : Int), .int .i64 (y : Int)] 92)).alloc (.cells #[.int .i64 (x : Int), .int .i64 (y : Int)] 92)) := ((Below.refl _ _).alloc (Nat.le_refl _) _).alloc (by simp) _
  have z1 : ((w.alloc (.cells #[.int .i64 (x : Int), .int .i64 (y : Int)] 92)).alloc (.cells #[.int .i64 (x : Int), .int .i64 (y : Int)] 92)).cell? ⟨w.heap.size + 1, 0, none⟩ = some (.int .i64 (x : Int)) := by simp
  have z2 : ((w.alloc (.cells #[.int .i64 (x : Int), .int .i64 (y : Int)] 92)).alloc (.cells #[.int .i64 (x : Int), .int .i64 (y : Int)] 92)).cell? ⟨w.heap.size + 1, 1, none⟩ = some (.int .i64 (y : Int)) := by simp
  generalize ((w.alloc (.cells #[.int .i64 (x : Int), .int .i64 (y : Int)] 92)).alloc (.cells #[.int .i64 (x : Int), .int .i64 (y : Int)] 92)) = W at *
  generalize w.heap.size + 1 = be at *
  have HB : Hid (Below w.heap.size w W) := hb2
  have hbs := hb2.size
  have HZ : Hid (W.cell? ⟨be, 0, none⟩ = some (.int .i64 (x : Int)) ∧ W.cell? ⟨be, 1, none⟩ = some (.int .i64 (y : Int))) := ⟨z1, z2⟩
  clear hb2 z1 z2
  go_loopw [8, 9, 10] (fun v d i wr => ∃ j : Nat, j ≤ n ∧ i = .int .i64 (j : Nat) ∧ Below W.heap.size W wr ∧ ((j ≤ m ∧ d = .bool false ∧ wr.ownsRow W.heap.size 92 2 v j (twos (F.take j))) ∨ (m < j ∧ d = .bool true ∧ wr.ownsRow W.heap.size 92 2 v (j + 1) (twos (F.take (j + 1)))))) (fun _ _ i _ => n - (intOf i).toNat)
  case atStart => exact ⟨0, Nat.zero_le _, rfl, Below.refl _ _, Or.inl ⟨Nat.zero_le _, rfl, World.ownsRow_nil ..⟩⟩
  case round =>
    obtain ⟨j, hj, rfl, hb, hcase⟩ := hrel
    have hbz := hb.size
    have HBr : Hid (Below W.heap.size W wr) := hb
    have z1 := cell_keep hb HZ.out.1
    have z2 := cell_keep hb HZ.out.2
    have z3 := HL.out
    clear hb
    have HL3 : Hid (F.length = n + 1) := z3
    clear z3
    by_cases hlt : j < n
    · obtain ⟨b, o, u, v, rfl, q1, q2, k1, k2, k3⟩ := HC.out j hlt
      replace q1 := cell_keep HBr.out (cell_keep HB.out q1)
      replace q2 := cell_keep HBr.out (cell_keep HB.out q2)
      have i0 : (0 : Int) ≤ (j : Int) := by omega
      have i3 : (j : Int) < (n : Int) := by omega
      have HQ1 : Hid (w.cell? ⟨b, o + j * 2, none⟩ = some (.int .i64 (u : Nat)) ∧ w.cell? ⟨b, o + j * 2 + 1, none⟩ = some (.int .i64 (v : Nat))) := by
        obtain ⟨b', o', u', v', e0, q3, q4, -⟩ := HC.out j hlt
        simp only [Option.some.injEq, Addr.mk.injEq, and_true] at e0
        obtain ⟨rfl, rfl⟩ := e0
        have e1 := cell_keep HBr.out (cell_keep HB.out q3)
        have e2 := cell_keep HBr.out (cell_keep HB.out q4)
        rw [q1] at e1; rw [q2] at e2
        simp only [Option.some.injEq, Value.int.injEq, true_and] at e1 e2
        rw [e1, e2]
        exact ⟨q3, q4⟩
      rcases hcase with ⟨hjm, rfl, hown⟩ | ⟨hjm, rfl, hown⟩
      · have HO : Hid (wr.ownsRow W.heap.size 92 2 u8 j (twos (F.take j))) := hown
        clear hown
        rcases Nat.lt_or_ge j m with hu | hu
        · have HG : Hid (F.getD j (0, 0) = (u, v)) := (k1 hu).1
          rcases (k1 hu).2 with hx | hx
          · have t1 : decide (x < u) = false := by simp; omega
            have t2 : (x == u) = false := by rw [beq_eq_false_iff_ne]; omega
            have t4 : ((x : Int) == (u : Int)) = false := by rw [beq_eq_false_iff_ne]; omega
            have hjm2 : j < m := hu
            clear k1 k2 k3 hu hx
            go_wp2_with fail
            go_quiet (fail)
            obtain ⟨wd, hwd⟩ : ∃ wd, wr.drewN nq = wd := ⟨_, rfl⟩
            have HOd : Hid (wd.ownsRow W.heap.size 92 2 u8 (j) (twos (F.take (j)))) := by rw [← hwd]; exact HO.out
            have HBd : Hid (Below W.heap.size W wd) := by rw [← hwd]; exact HBr.out.trans ((below_drewN rfl).mono hbz)
            have y1 : wd.cell? ⟨b, o + j * 2, none⟩ = some (.int .i64 (u : Nat)) := by rw [← hwd]; exact q1
            have y2 : wd.cell? ⟨b, o + j * 2 + 1, none⟩ = some (.int .i64 (v : Nat)) := by rw [← hwd]; exact q2
            have y3 : wd.cell? ⟨be, 0, none⟩ = some (.int .i64 (x : Nat)) := by rw [← hwd]; exact z1
            have y4 : wd.cell? ⟨be, 1, none⟩ = some (.int .i64 (y : Nat)) := by rw [← hwd]; exact z2
            have hds : W.heap.size ≤ wd.heap.size := HBd.out.size
            rw [hwd]
            clear hwd q1 q2 z1 z2 hbz
            go_wp2_with (first
              | (at_builtin; refine wpList_append_lies _ rfl (.tmp 56) (.tmp 61) 36 rfl W.heap.size 92 z0 (.agg #[.int .i64 0, .int .i64 0]) 2 16 Tryz.underlying36 hi0 hz0 hz1 hz2 rfl (by decide) u8 (j) (twos (F.take (j))) rfl (HOd.out.alloc _) ⟨wd.heap.size, 0, none⟩ 1 1 (two (u, v)) rfl rfl (two_new _ _ _) (by simp [two, Value.oneCell']) (by decide) ?c3 ?c4 ?c5 _ rfl ?_))
            case c3 => unfold maxLen; omega
            case c4 => omega
            case c5 => simp; omega
            intro g1 cap1 wb1 hown1 hgrow1 hat1 hlt1
            have hbb1 : Below W.heap.size W wb1 := (HBd.out.alloc hds _).grown hgrow1 (by simp; omega) (fun k e => (HOd.out.lt k e).1)
            have hss1 := hbb1.size
            have HBB1 : Hid (Below W.heap.size W wb1) := hbb1
            have HO1 : Hid (wb1.ownsRow W.heap.size 92 2 (.slice (some ⟨g1, 0, none⟩) (j + 1) cap1) (j + 1) (twos (F.take (j + 1)))) := show World.ownsRow .. by
              rw [take_getD F (j) (by have := HL3.out; omega), twos_snoc, HG.out]; exact hown1
            clear hown1 hgrow1 hat1 hlt1 y1 y2 y3 y4 hss1
            go_wp2_with fail
            go_roundw
            case rel => exact ⟨j + 1, by omega, by go_num, HBB1.out, Or.inl ⟨by omega, rfl, HO1.out⟩⟩
            case measure => simp [intOf]; omega

          · have t1 : decide (x < u) = false := by simp; omega
            have t2 : (x == u) = true := by simp; omega
            have t4 : ((x : Int) == (u : Int)) = true := by simp; omega
            have t3 : decide (y < v) = false := by simp; omega
            have hjm2 : j < m := hu
            clear k1 k2 k3 hu hx
            go_wp2_with fail
            go_quiet (fail)
            obtain ⟨wd, hwd⟩ : ∃ wd, wr.drewN nq = wd := ⟨_, rfl⟩
            have HOd : Hid (wd.ownsRow W.heap.size 92 2 u8 (j) (twos (F.take (j)))) := by rw [← hwd]; exact HO.out
            have HBd : Hid (Below W.heap.size W wd) := by rw [← hwd]; exact HBr.out.trans ((below_drewN rfl).mono hbz)
            have y1 : wd.cell? ⟨b, o + j * 2, none⟩ = some (.int .i64 (u : Nat)) := by rw [← hwd]; exact q1
            have y2 : wd.cell? ⟨b, o + j * 2 + 1, none⟩ = some (.int .i64 (v : Nat)) := by rw [← hwd]; exact q2
            have y3 : wd.cell? ⟨be, 0, none⟩ = some (.int .i64 (x : Nat)) := by rw [← hwd]; exact z1
            have y4 : wd.cell? ⟨be, 1, none⟩ = some (.int .i64 (y : Nat)) := by rw [← hwd]; exact z2
            have hds : W.heap.size ≤ wd.heap.size := HBd.out.size
            rw [hwd]
            clear hwd q1 q2 z1 z2 hbz
            go_wp2_with (first
              | (at_builtin; refine wpList_append_lies _ rfl (.tmp 56) (.tmp 61) 36 rfl W.heap.size 92 z0 (.agg #[.int .i64 0, .int .i64 0]) 2 16 Tryz.underlying36 hi0 hz0 hz1 hz2 rfl (by decide) u8 (j) (twos (F.take (j))) rfl (HOd.out.alloc _) ⟨wd.heap.size, 0, none⟩ 1 1 (two (u, v)) rfl rfl (two_new _ _ _) (by simp [two, Value.oneCell']) (by decide) ?c3 ?c4 ?c5 _ rfl ?_))
            case c3 => unfold maxLen; omega
            case c4 => omega
            case c5 => simp; omega
            intro g1 cap1 wb1 hown1 hgrow1 hat1 hlt1
            have hbb1 : Below W.heap.size W wb1 := (HBd.out.alloc hds _).grown hgrow1 (by simp; omega) (fun k e => (HOd.out.lt k e).1)
            have hss1 := hbb1.size
            have HBB1 : Hid (Below W.heap.size W wb1) := hbb1
            have HO1 : Hid (wb1.ownsRow W.heap.size 92 2 (.slice (some ⟨g1, 0, none⟩) (j + 1) cap1) (j + 1) (twos (F.take (j + 1)))) := show World.ownsRow .. by
              rw [take_getD F (j) (by have := HL3.out; omega), twos_snoc, HG.out]; exact hown1
            clear hown1 hgrow1 hat1 hlt1 y1 y2 y3 y4 hss1
            go_wp2_with fail
            go_roundw
            case rel => exact ⟨j + 1, by omega, by go_num, HBB1.out, Or.inl ⟨by omega, rfl, HO1.out⟩⟩
            case measure => simp [intOf]; omega

        · obtain rfl : j = m := by omega
          have HG : Hid (F.getD j (0, 0) = (x, y) ∧ F.getD (j + 1) (0, 0) = (u, v)) := ⟨HF1.out, k2 (Nat.le_refl _)⟩
          rcases k3 rfl with hx | hx
          · have t1 : decide (x < u) = true := by simp; omega
            clear k1 k2 k3 hx
            go_wp2_with fail
            go_quiet (fail)
            obtain ⟨wd, hwd⟩ : ∃ wd, wr.drewN nq = wd := ⟨_, rfl⟩
            have HOd : Hid (wd.ownsRow W.heap.size 92 2 u8 (j) (twos (F.take (j)))) := by rw [← hwd]; exact HO.out
            have HBd : Hid (Below W.heap.size W wd) := by rw [← hwd]; exact HBr.out.trans ((below_drewN rfl).mono hbz)
            have y1 : wd.cell? ⟨b, o + j * 2, none⟩ = some (.int .i64 (u : Nat)) := by rw [← hwd]; exact q1
            have y2 : wd.cell? ⟨b, o + j * 2 + 1, none⟩ = some (.int .i64 (v : Nat)) := by rw [← hwd]; exact q2
            have y3 : wd.cell? ⟨be, 0, none⟩ = some (.int .i64 (x : Nat)) := by rw [← hwd]; exact z1
            have y4 : wd.cell? ⟨be, 1, none⟩ = some (.int .i64 (y : Nat)) := by rw [← hwd]; exact z2
            have hds : W.heap.size ≤ wd.heap.size := HBd.out.size
            rw [hwd]
            clear hwd q1 q2 z1 z2 hbz
            go_wp2_with (first
              | (at_builtin; refine wpList_append_lies _ rfl (.tmp 52) (.tmp 54) 36 rfl W.heap.size 92 z0 (.agg #[.int .i64 0, .int .i64 0]) 2 16 Tryz.underlying36 hi0 hz0 hz1 hz2 rfl (by decide) u8 (j) (twos (F.take j)) rfl (HOd.out.alloc _) ⟨wd.heap.size, 0, none⟩ 1 1 (two (x, y)) rfl rfl (two_new _ _ _) (by simp [two, Value.oneCell']) (by decide) ?c3 ?c4 ?c5 _ rfl ?_))
            case c3 => unfold maxLen; omega
            case c4 => omega
            case c5 => simp; omega
            intro g1 cap1 wb1 hown1 hgrow1 hat1 hlt1
            have hbb1 : Below W.heap.size W wb1 := (HBd.out.alloc hds _).grown hgrow1 (by simp; omega) (fun k e => (HOd.out.lt k e).1)
            have hss1 := hbb1.size
            have HBB1 : Hid (Below W.heap.size W wb1) := hbb1
            have HO1 : Hid (wb1.ownsRow W.heap.size 92 2 (.slice (some ⟨g1, 0, none⟩) (j + 1) cap1) (j + 1) (twos (F.take (j + 1)))) := show World.ownsRow .. by
              rw [take_getD F j (by have := HL3.out; omega), twos_snoc, HG.out.1]; exact hown1
            have hgr := hgrow1
            have x1 : wb1.cell? ⟨b, o + j * 2, none⟩ = some (.int .i64 (u : Nat)) := cell_keep HBB1.out (cell_keep HB.out HQ1.out.1)
            have x2 : wb1.cell? ⟨b, o + j * 2 + 1, none⟩ = some (.int .i64 (v : Nat)) := cell_keep HBB1.out (cell_keep HB.out HQ1.out.2)
            clear hown1 hgrow1 hat1 hlt1 y1 y2 y3 y4 hgr hds
            go_wp2_with (first
              | (at_builtin; refine wpList_append_lies _ rfl (.tmp 56) (.tmp 61) 36 rfl W.heap.size 92 z0 (.agg #[.int .i64 0, .int .i64 0]) 2 16 Tryz.underlying36 hi0 hz0 hz1 hz2 rfl (by decide) (.slice (some ⟨g1, 0, none⟩) (j + 1) cap1) (j + 1) (twos (F.take (j + 1))) rfl (HO1.out.alloc _) ⟨wb1.heap.size, 0, none⟩ 1 1 (two (u, v)) rfl rfl (two_new _ _ _) (by simp [two, Value.oneCell']) (by decide) ?c3 ?c4 ?c5 _ rfl ?_))
            case c3 => unfold maxLen; omega
            case c4 => omega
            case c5 => simp; omega
            intro g2 cap2 wb2 hown2 hgrow2 hat2 hlt2
            have hbb2 : Below W.heap.size W wb2 := (HBB1.out.alloc hss1 _).grown hgrow2 (by simp; omega) (fun k e => (HO1.out.lt k e).1)
            have hss2 := hbb2.size
            have HBB2 : Hid (Below W.heap.size W wb2) := hbb2
            have HO2 : Hid (wb2.ownsRow W.heap.size 92 2 (.slice (some ⟨g2, 0, none⟩) (j + 1 + 1) cap2) (j + 1 + 1) (twos (F.take (j + 1 + 1)))) := show World.ownsRow .. by
              rw [take_getD F (j + 1) (by have := HL3.out; omega), twos_snoc, HG.out.2]; exact hown2
            clear hown2 hgrow2 hat2 hlt2 x1 x2 hss2
            go_wp2_with fail
            go_roundw
            case rel => exact ⟨j + 1, by omega, by go_num, HBB2.out, Or.inr ⟨by omega, rfl, HO2.out⟩⟩
            case measure => simp [intOf]; omega

          · have t1 : decide (x < u) = false := by simp; omega
            have t2 : (x == u) = true := by simp; omega
            have t4 : ((x : Int) == (u : Int)) = true := by simp; omega
            have t3 : decide (y < v) = true := by simp; omega
            clear k1 k2 k3 hx
            go_wp2_with fail
            go_quiet (fail)
            obtain ⟨wd, hwd⟩ : ∃ wd, wr.drewN nq = wd := ⟨_, rfl⟩
            have HOd : Hid (wd.ownsRow W.heap.size 92 2 u8 (j) (twos (F.take (j)))) := by rw [← hwd]; exact HO.out
            have HBd : Hid (Below W.heap.size W wd) := by rw [← hwd]; exact HBr.out.trans ((below_drewN rfl).mono hbz)
            have y1 : wd.cell? ⟨b, o + j * 2, none⟩ = some (.int .i64 (u : Nat)) := by rw [← hwd]; exact q1
            have y2 : wd.cell? ⟨b, o + j * 2 + 1, none⟩ = some (.int .i64 (v : Nat)) := by rw [← hwd]; exact q2
            have y3 : wd.cell? ⟨be, 0, none⟩ = some (.int .i64 (x : Nat)) := by rw [← hwd]; exact z1
            have y4 : wd.cell? ⟨be, 1, none⟩ = some (.int .i64 (y : Nat)) := by rw [← hwd]; exact z2
            have hds : W.heap.size ≤ wd.heap.size := HBd.out.size
            rw [hwd]
            clear hwd q1 q2 z1 z2 hbz
            go_wp2_with (first
              | (at_builtin; refine wpList_append_lies _ rfl (.tmp 52) (.tmp 54) 36 rfl W.heap.size 92 z0 (.agg #[.int .i64 0, .int .i64 0]) 2 16 Tryz.underlying36 hi0 hz0 hz1 hz2 rfl (by decide) u8 (j) (twos (F.take j)) rfl (HOd.out.alloc _) ⟨wd.heap.size, 0, none⟩ 1 1 (two (x, y)) rfl rfl (two_new _ _ _) (by simp [two, Value.oneCell']) (by decide) ?c3 ?c4 ?c5 _ rfl ?_))
            case c3 => unfold maxLen; omega
            case c4 => omega
            case c5 => simp; omega
            intro g1 cap1 wb1 hown1 hgrow1 hat1 hlt1
            have hbb1 : Below W.heap.size W wb1 := (HBd.out.alloc hds _).grown hgrow1 (by simp; omega) (fun k e => (HOd.out.lt k e).1)
            have hss1 := hbb1.size
            have HBB1 : Hid (Below W.heap.size W wb1) := hbb1
            have HO1 : Hid (wb1.ownsRow W.heap.size 92 2 (.slice (some ⟨g1, 0, none⟩) (j + 1) cap1) (j + 1) (twos (F.take (j + 1)))) := show World.ownsRow .. by
              rw [take_getD F j (by have := HL3.out; omega), twos_snoc, HG.out.1]; exact hown1
            have hgr := hgrow1
            have x1 : wb1.cell? ⟨b, o + j * 2, none⟩ = some (.int .i64 (u : Nat)) := cell_keep HBB1.out (cell_keep HB.out HQ1.out.1)
            have x2 : wb1.cell? ⟨b, o + j * 2 + 1, none⟩ = some (.int .i64 (v : Nat)) := cell_keep HBB1.out (cell_keep HB.out HQ1.out.2)
            clear hown1 hgrow1 hat1 hlt1 y1 y2 y3 y4 hgr hds
            go_wp2_with (first
              | (at_builtin; refine wpList_append_lies _ rfl (.tmp 56) (.tmp 61) 36 rfl W.heap.size 92 z0 (.agg #[.int .i64 0, .int .i64 0]) 2 16 Tryz.underlying36 hi0 hz0 hz1 hz2 rfl (by decide) (.slice (some ⟨g1, 0, none⟩) (j + 1) cap1) (j + 1) (twos (F.take (j + 1))) rfl (HO1.out.alloc _) ⟨wb1.heap.size, 0, none⟩ 1 1 (two (u, v)) rfl rfl (two_new _ _ _) (by simp [two, Value.oneCell']) (by decide) ?c3 ?c4 ?c5 _ rfl ?_))
            case c3 => unfold maxLen; omega
            case c4 => omega
            case c5 => simp; omega
            intro g2 cap2 wb2 hown2 hgrow2 hat2 hlt2
            have hbb2 : Below W.heap.size W wb2 := (HBB1.out.alloc hss1 _).grown hgrow2 (by simp; omega) (fun k e => (HO1.out.lt k e).1)
            have hss2 := hbb2.size
            have HBB2 : Hid (Below W.heap.size W wb2) := hbb2
            have HO2 : Hid (wb2.ownsRow W.heap.size 92 2 (.slice (some ⟨g2, 0, none⟩) (j + 1 + 1) cap2) (j + 1 + 1) (twos (F.take (j + 1 + 1)))) := show World.ownsRow .. by
              rw [take_getD F (j + 1) (by have := HL3.out; omega), twos_snoc, HG.out.2]; exact hown2
            clear hown2 hgrow2 hat2 hlt2 x1 x2 hss2
            go_wp2_with fail
            go_roundw
            case rel => exact ⟨j + 1, by omega, by go_num, HBB2.out, Or.inr ⟨by omega, rfl, HO2.out⟩⟩
            case measure => simp [intOf]; omega

      · have HO : Hid (wr.ownsRow W.heap.size 92 2 u8 (j + 1) (twos (F.take (j + 1)))) := hown
        have HG : Hid (F.getD (j + 1) (0, 0) = (u, v)) := k2 (by omega)
        clear hown k1 k2 k3
        go_wp2_with fail
        go_quiet (fail)
        obtain ⟨wd, hwd⟩ : ∃ wd, wr.drewN nq = wd := ⟨_, rfl⟩
        have HOd : Hid (wd.ownsRow W.heap.size 92 2 u8 (j + 1) (twos (F.take (j + 1)))) := by rw [← hwd]; exact HO.out
        have HBd : Hid (Below W.heap.size W wd) := by rw [← hwd]; exact HBr.out.trans ((below_drewN rfl).mono hbz)
        have y1 : wd.cell? ⟨b, o + j * 2, none⟩ = some (.int .i64 (u : Nat)) := by rw [← hwd]; exact q1
        have y2 : wd.cell? ⟨b, o + j * 2 + 1, none⟩ = some (.int .i64 (v : Nat)) := by rw [← hwd]; exact q2
        have y3 : wd.cell? ⟨be, 0, none⟩ = some (.int .i64 (x : Nat)) := by rw [← hwd]; exact z1
        have y4 : wd.cell? ⟨be, 1, none⟩ = some (.int .i64 (y : Nat)) := by rw [← hwd]; exact z2
        have hds : W.heap.size ≤ wd.heap.size := HBd.out.size
        rw [hwd]
        clear hwd q1 q2 z1 z2 hbz
        go_wp2_with (first
          | (at_builtin; refine wpList_append_lies _ rfl (.tmp 56) (.tmp 61) 36 rfl W.heap.size 92 z0 (.agg #[.int .i64 0, .int .i64 0]) 2 16 Tryz.underlying36 hi0 hz0 hz1 hz2 rfl (by decide) u8 (j + 1) (twos (F.take (j + 1))) rfl (HOd.out.alloc _) ⟨wd.heap.size, 0, none⟩ 1 1 (two (u, v)) rfl rfl (two_new _ _ _) (by simp [two, Value.oneCell']) (by decide) ?c3 ?c4 ?c5 _ rfl ?_))
        case c3 => unfold maxLen; omega
        case c4 => omega
        case c5 => simp; omega
        intro g1 cap1 wb1 hown1 hgrow1 hat1 hlt1
        have hbb1 : Below W.heap.size W wb1 := (HBd.out.alloc hds _).grown hgrow1 (by simp; omega) (fun k e => (HOd.out.lt k e).1)
        have hss1 := hbb1.size
        have HBB1 : Hid (Below W.heap.size W wb1) := hbb1
        have HO1 : Hid (wb1.ownsRow W.heap.size 92 2 (.slice (some ⟨g1, 0, none⟩) (j + 1 + 1) cap1) (j + 1 + 1) (twos (F.take (j + 1 + 1)))) := show World.ownsRow .. by
          rw [take_getD F (j + 1) (by have := HL3.out; omega), twos_snoc, HG.out]; exact hown1
        clear hown1 hgrow1 hat1 hlt1 y1 y2 y3 y4 hss1
        go_wp2_with fail
        go_roundw
        case rel => exact ⟨j + 1, by omega, by go_num, HBB1.out, Or.inr ⟨by omega, rfl, HO1.out⟩⟩
        case measure => simp [intOf]; omega

    · obtain rfl : j = n := by omega
      rcases hcase with ⟨hjm, rfl, hown⟩ | ⟨hjm, rfl, hown⟩
      · obtain rfl : j = m := by omega
        have HOd : Hid (wr.ownsRow W.heap.size 92 2 u8 j (twos (F.take j))) := hown
        have HBd : Hid (Below W.heap.size W wr) := HBr.out
        have hds := hbz
        clear hown
        go_wp2_with (first
          | (at_builtin; refine wpList_append_lies _ rfl (.tmp 65) (.tmp 67) 36 rfl W.heap.size 92 z0 (.agg #[.int .i64 0, .int .i64 0]) 2 16 Tryz.underlying36 hi0 hz0 hz1 hz2 rfl (by decide) u8 (j) (twos (F.take j)) rfl (HOd.out.alloc _) ⟨wr.heap.size, 0, none⟩ 1 1 (two (x, y)) rfl rfl (two_new _ _ _) (by simp [two, Value.oneCell']) (by decide) ?c3 ?c4 ?c5 _ rfl ?_))
        case c3 => unfold maxLen; omega
        case c4 => omega
        case c5 => simp; omega
        intro g1 cap1 wb1 hown1 hgrow1 hat1 hlt1
        have hbb1 : Below W.heap.size W wb1 := (HBd.out.alloc hds _).grown hgrow1 (by simp; omega) (fun k e => (HOd.out.lt k e).1)
        have hss1 := hbb1.size
        have HBB1 : Hid (Below W.heap.size W wb1) := hbb1
        have HO1 : Hid (wb1.ownsRow W.heap.size 92 2 (.slice (some ⟨g1, 0, none⟩) (j + 1) cap1) (j + 1) (twos F)) := show World.ownsRow .. by
          have e : F = F.take j ++ [(x, y)] := by rw [← HF1.out, ← take_getD F j (by have := HL3.out; omega), List.take_of_length_le (by have := HL3.out; omega)]
          rw [e, twos_snoc]; exact hown1
        clear hown1 hgrow1 hat1 hlt1
        go_wp2_with fail
        go_ret
        exact ⟨_, rfl, HB.out.trans (HBB1.out.mono hbs), own_mono HO1.out hbs⟩
      · have e : F.take (j + 1) = F := List.take_of_length_le (by have := HL3.out; omega)
        rw [e] at hown
        obtain ⟨g, cap, rfl⟩ : ∃ g cap, u8 = .slice (some ⟨g, 0, none⟩) (j + 1) cap := by
          rcases hown.2 with ⟨_, h0⟩ | ⟨k, cap, _, hv, _⟩
          · omega
          · exact ⟨k, cap, hv⟩
        have HO1 : Hid (wr.ownsRow W.heap.size 92 2 (.slice (some ⟨g, 0, none⟩) (j + 1) cap) (j + 1) (twos F)) := hown
        clear hown e
        go_wp2_with fail
        go_ret
        exact ⟨_, rfl, HB.out.trans (HBr.out.mono hbs), own_mono HO1.out hbs⟩


end Go.Proofs.YtcfemppdeidjmacGreatDoor.Br
