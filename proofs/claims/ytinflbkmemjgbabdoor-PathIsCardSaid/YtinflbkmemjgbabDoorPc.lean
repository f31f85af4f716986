/-
  The statements' own answer: how far each node is.
-/
import Derived.Test.YtinflbkmemjgbabDoorPb
import Derived.Test.YtinflbkmemjgbabDoorBc
namespace Go.Proofs.YtinflbkmemjgbabDoor.Pt
open Go.RowKit Go.Deep Go.Proofs.YtinflbkmemjgbabDoor.Br
open Go.RowKit (Below)
set_option linter.unusedVariables false

variable {w w' : World} {E : List (Nat × Nat)}

/-- A list of numbers that may be written to. -/
structure WrI (w : World) (k n : Nat) (d : Nat → Int) : Prop where
  cell : ∀ i, i < n → w.cell? ⟨k, i, none⟩ = some (.int .i64 (d i))
  free : ∀ i, i < n → w.frozen? ⟨k, i, none⟩ = false

theorem WrI.set {k n : Nat} {d : Nat → Int} (h : WrI w k n d) (b : Nat) (x : Int) (hb : b < n) : WrI (w.setCell ⟨k, b, none⟩ (.int .i64 x)) k n (put d b x) := by
  refine ⟨fun i hi => ?_, fun i hi => by rw [World.frozen?_setCell]; exact h.free i hi⟩
  by_cases e : i = b
  · subst e
    rw [put_same]
    exact World.cell?_setCell_same (h := h.cell i hi) ..
  · rw [put_other e]
    exact (World.cell?_setCell_other (h := by simp only [ne_eq, Addr.mk.injEq, not_and]; intro _ h1; exact absurd h1.symm e) ..).trans (h.cell i hi)

theorem own_wri {base cap k n : Nat} (h : w.ownsRow base 3 1 (.slice (some ⟨k, 0, none⟩) n cap) n (List.replicate n (Value.int .i64 (-1)))) (hn : 0 < n) : WrI w k n (fun _ => -1) ∧ base ≤ k ∧ k < w.heap.size := by
  rcases h.2 with ⟨_, h0⟩ | ⟨g', cap', cur, hv, hb, hg, h1, h2, h3, h4⟩
  · omega
  · simp only [Value.slice.injEq, Option.some.injEq, Addr.mk.injEq, and_true, true_and] at hv
    obtain ⟨rfl, rfl⟩ := hv
    refine ⟨⟨fun i hi => ?_, fun i hi => by simp [World.frozen?, hg]⟩, hb, (Array.getElem?_eq_some_iff.1 hg).1⟩
    have e1 : (cur.toList.take (n * 1))[i]? = some (Value.int .i64 (-1)) := by rw [h4]; simp [hi]
    rw [List.getElem?_take, if_pos (by omega)] at e1
    simp only [World.cell?, hg]
    simpa using e1

set_option maxRecDepth 100000 in
set_option maxHeartbeats 4000000 in
theorem far_of {a : Option Addr} {m c n b : Nat} (hE : EdgesAt w a E) (hm : E.length = m) (hm2 : m ≤ 200) (hn : 0 < n) (hn2 : n ≤ 60) (ha : Among n E) (hne : ∀ e ∈ E, e.1 ≠ e.2) (hb : b < n) :
    Calls Tryd.prog 33 #[.int .i64 (n : Nat), .slice a m c, .int .i64 (b : Nat)] w fun e w' => ∃ (k cap : Nat) (d : Nat → Int), e = .returned (.slice (some ⟨k, 0, none⟩) n cap) ∧ Below w.heap.size w w' ∧ w.heap.size ≤ k ∧ (∀ i, i < n → w'.cell? ⟨k, i, none⟩ = some (.int .i64 (d i))) ∧ ∀ i, Far E b i (d i) := by
  obtain ⟨i0, hi0, hz0, hz1, hz2⟩ := info_parts Tryd.infoInt
  have HC : Hid (∀ i, i < m → ∃ b o u v, a = some ⟨b, o, none⟩ ∧ E[i]? = some (u, v) ∧ w.cell? ⟨b, o + i * 2, none⟩ = some (.int .i64 (u : Nat)) ∧ w.cell? ⟨b, o + i * 2 + 1, none⟩ = some (.int .i64 (v : Nat))) := fun i hi => by
    obtain ⟨b, o, e, q1, q2⟩ := hE.cell i (by omega)
    have h1 : E[i]? = some (E.getD i (0, 0)) := by rw [List.getD_eq_getElem?_getD, List.getElem?_eq_getElem (by omega)]; rfl
    exact ⟨b, o, _, _, e, h1, q1, q2⟩
  have HM : Hid (E.length = m ∧ Among n E ∧ ∀ e ∈ E, e.1 ≠ e.2) := ⟨hm, ha, hne⟩
  clear hE hm ha hne
  go_enter Tryd.func33, Tryd.ntmps33
  go_wp2_with fail
  go_loopw [7, 8] (fun v i wr => ∃ j : Nat, j ≤ n ∧ i = .int .i64 (j : Nat) ∧ wr.ownsRow w.heap.size 3 1 v j (List.replicate j (Value.int .i64 (-1))) ∧ Below w.heap.size w wr) (fun _ i _ => n - (intOf i).toNat)
  case atStart => exact ⟨0, Nat.zero_le _, rfl, World.ownsRow_nil .., Below.refl _ _⟩
  case round =>
    obtain ⟨j, hj, rfl, hown, hbb⟩ := hrel
    by_cases hlt : j < n
    · have hb1 := hbb.size
      have HO : Hid (wr.ownsRow w.heap.size 3 1 u7 j (List.replicate j (Value.int .i64 (-1)))) := hown
      have HB : Hid (Below w.heap.size w wr) := hbb
      clear hown hbb
      have i1 : (0 : Int) ≤ (j : Int) := by omega
      go_wp2_with (first
        | (at_builtin; refine wpList_append_lies _ rfl (.tmp 16) (.tmp 17) 45 rfl w.heap.size 3 i0 (.int .i64 0) 1 8 Tryd.underlying45 hi0 hz0 hz1 hz2 rfl (by decide) u7 j (List.replicate j (Value.int .i64 (-1))) rfl (HO.out.alloc _) ⟨wr.heap.size, 0, none⟩ 1 1 [.int .i64 (-1)] rfl rfl ?c1 ?c2 (by decide) ?c3 ?c4 ?c5 _ rfl ?_))
      case c1 => exact cell_one_new _ _ _
      case c2 => intro u hu; simp at hu; subst hu; rfl
      case c3 => unfold maxLen; omega
      case c4 => omega
      case c5 => simp; omega
      intro g1 cap1 w2 hown hgrow hat hlt2
      have hown2 : w2.ownsRow w.heap.size 3 1 (.slice (some ⟨g1, 0, none⟩) (j + 1) cap1) (j + 1) (List.replicate (j + 1) (Value.int .i64 (-1))) := by
        rw [List.replicate_succ']; exact hown
      have hb2 : Below w.heap.size w w2 := (HB.out.alloc hb1 _).grown hgrow (by simp; omega) (fun k e => (HO.out.lt k e).1)
      have HO2 : Hid (w2.ownsRow w.heap.size 3 1 (.slice (some ⟨g1, 0, none⟩) (j + 1) cap1) (j + 1) (List.replicate (j + 1) (Value.int .i64 (-1)))) := hown2
      clear hown hown2 hgrow hat hlt2
      go_wp2_with fail
      go_roundw
      case rel => exact ⟨j + 1, by omega, by go_num, HO2.out, hb2⟩
      case measure => simp [intOf]; omega
    · obtain rfl : j = n := by omega
      obtain ⟨kb, cap, rfl⟩ : ∃ k cap, u7 = .slice (some ⟨k, 0, none⟩) j cap := by
        rcases hown.2 with ⟨_, h0⟩ | ⟨k, cap, _, hv, _⟩
        · omega
        · exact ⟨k, cap, hv⟩
      obtain ⟨hw0, hk, hk2⟩ := own_wri hown hn
      have f0 := hw0.free b hb
      have c0 := hw0.cell b hb
      have HW0 : Hid (WrI (wr.setCell ⟨kb, b, none⟩ (.int .i64 0)) kb j (put (fun _ => -1) b 0)) := hw0.set b 0 hb
      have HB : Hid (Below w.heap.size w (wr.setCell ⟨kb, b, none⟩ (.int .i64 0))) := hbb.setCell (p := ⟨kb, b, none⟩) hk _
      have HK0 : Hid (∀ i, Known E b 0 0 i (put (fun _ => -1) b 0 i)) := fun i => known_start E b i
      have j0 : (0 : Int) ≤ (b : Int) := by omega
      have j1 : (b : Int) < (j : Int) := by omega
      clear hown hw0 hbb
      go_wp2_with fail
      go_loopw [9, 10] (fun k _ wr => ∃ (kk : Nat) (d : Nat → Int), kk ≤ j ∧ k = .int .i64 (kk : Nat) ∧ WrI wr kb j d ∧ (∀ i, Known E b kk 0 i (d i)) ∧ Below w.heap.size w wr) (fun k _ _ => j - (intOf k).toNat)
      case atStart => exact ⟨0, _, Nat.zero_le _, rfl, HW0.out, HK0.out, HB.out⟩
      case round =>
        clear HW0 HB HK0 c0 f0
        obtain ⟨kk, d, hkk, rfl, hW, hKn, hbk⟩ := hrel
        by_cases hlk : kk < j
        · have HS : Hid (WrI wr kb j d ∧ (∀ i, Known E b kk 0 i (d i)) ∧ Below w.heap.size w wr) := ⟨hW, hKn, hbk⟩
          clear hW hKn hbk
          go_wp2_with fail
          go_loopw [10] (fun i wr => ∃ (t : Nat) (d : Nat → Int), t ≤ m ∧ i = .int .i64 (t : Nat) ∧ WrI wr kb j d ∧ (∀ i, Known E b kk t i (d i)) ∧ Below w.heap.size w wr) (fun i _ => m - (intOf i).toNat)
          case atStart => exact ⟨0, d, Nat.zero_le _, rfl, HS.out.1, HS.out.2.1, HS.out.2.2⟩
          case round =>
            clear HS
            obtain ⟨t, d, ht, rfl, hW, hKn, hbk⟩ := hrel
            have HR : Hid (WrI wr kb j d ∧ (∀ i, Known E b kk t i (d i)) ∧ Below w.heap.size w wr) := ⟨hW, hKn, hbk⟩
            by_cases hlt : t < m
            · obtain ⟨eb, eo, u, v, rfl, hEt, c1, c2⟩ := HC.out t hlt
              replace c1 := cell_keep hbk c1
              replace c2 := cell_keep hbk c2
              have hmem : (u, v) ∈ E := List.mem_of_getElem? hEt
              obtain ⟨hun, hvn⟩ : u < j ∧ v < j := HM.out.2.1 (u, v) hmem
              have huv : u ≠ v := HM.out.2.2 (u, v) hmem
              have d1 := hW.cell u hun
              have d2 := hW.cell v hvn
              have f1 := hW.free u hun
              have f2 := hW.free v hvn
              obtain ⟨X, hX⟩ : ∃ X, d u = X := ⟨_, rfl⟩
              obtain ⟨Y, hY⟩ : ∃ Y, d v = Y := ⟨_, rfl⟩
              rw [hX] at d1
              rw [hY] at d2
              have HXY : Hid (d u = X ∧ d v = Y) := ⟨hX, hY⟩
              have HEt : Hid (E[t]? = some (u, v) ∧ u ≠ v) := ⟨hEt, huv⟩
              have HEc : Hid (∀ W, Below w.heap.size w W → (W.cell? ⟨eb, eo + t * 2, none⟩ = some (.int .i64 (u : Nat)) ∧ W.cell? ⟨eb, eo + t * 2 + 1, none⟩ = some (.int .i64 (v : Nat)))) := fun W hW => by
                obtain ⟨b', o', u', v', e0, q0, q1, q2⟩ := HC.out t hlt
                simp only [Option.some.injEq, Addr.mk.injEq, and_true] at e0
                obtain ⟨rfl, rfl⟩ := e0
                rw [hEt] at q0
                cases q0
                exact ⟨cell_keep hW q1, cell_keep hW q2⟩
              have i1 : (0 : Int) ≤ (t : Int) := by omega
              have i2 : (t : Int) < (m : Int) := by omega
              have i3 : (0 : Int) ≤ (u : Int) := by omega
              have i4 : (u : Int) < (j : Int) := by omega
              have i5 : (0 : Int) ≤ (v : Int) := by omega
              have i6 : (v : Int) < (j : Int) := by omega
              clear hW hKn hbk hEt hmem huv hX hY
              by_cases hXk : X = (kk : Int)
              · by_cases hYn : Y < 0
                · have HN : Hid (WrI (wr.setCell ⟨kb, v, none⟩ (.int .i64 ((kk + 1 : Nat) : Int))) kb j (put d v ((kk + 1 : Nat) : Int)) ∧ (∀ i, Known E b kk (t + 1) i (put d v ((kk + 1 : Nat) : Int) i)) ∧ Below w.heap.size w (wr.setCell ⟨kb, v, none⟩ (.int .i64 ((kk + 1 : Nat) : Int)))) :=
                    ⟨HR.out.1.set v _ hvn, known_v HR.out.2.1 HEt.out.1 HEt.out.2 (by rw [HXY.out.1, hXk]) (by rw [HXY.out.2]; exact hYn), HR.out.2.2.setCell (p := ⟨kb, v, none⟩) hk _⟩
                  have e1 := (HEc.out _ HN.out.2.2).1
                  have e2 := (HEc.out _ HN.out.2.2).2
                  have e3 := HN.out.1.cell v hvn
                  rw [put_same] at e3
                  have hcs : ((kk + 1 : Nat) : Int) = (kk : Int) + 1 := by omega
                  rw [hcs] at e1 e2 e3 HN
                  clear hcs
                  have tk : (((kk : Int) + 1) == (kk : Int)) = false := by rw [beq_eq_false_iff_ne]; omega
                  subst hXk
                  go_wp2_with fail
                  go_roundw
                  case rel => exact ⟨t + 1, _, by omega, by go_num, HN.out⟩
                  case measure => simp [intOf]; omega
                · have HN : Hid (∀ i, Known E b kk (t + 1) i (d i)) := known_none HR.out.2.1 HEt.out.1 (by rw [HXY.out.1, HXY.out.2]; omega) (by rw [HXY.out.1, HXY.out.2]; omega)
                  subst hXk
                  have x0 : ¬ (kk : Int) < 0 := by omega
                  by_cases hYk : Y = (kk : Int)
                  · subst hYk
                    go_wp2_with fail
                    go_roundw
                    case rel => exact ⟨t + 1, d, by omega, by go_num, HR.out.1, HN.out, HR.out.2.2⟩
                    case measure => simp [intOf]; omega
                  · have ty : (Y == (kk : Int)) = false := by rw [beq_eq_false_iff_ne]; exact hYk
                    clear hYk
                    go_wp2_with fail
                    go_roundw
                    case rel => exact ⟨t + 1, d, by omega, by go_num, HR.out.1, HN.out, HR.out.2.2⟩
                    case measure => simp [intOf]; omega
              · have tx : (X == (kk : Int)) = false := by rw [beq_eq_false_iff_ne]; exact hXk
                by_cases hYk : Y = (kk : Int)
                · by_cases hXn : X < 0
                  · have HN : Hid (WrI (wr.setCell ⟨kb, u, none⟩ (.int .i64 ((kk + 1 : Nat) : Int))) kb j (put d u ((kk + 1 : Nat) : Int)) ∧ (∀ i, Known E b kk (t + 1) i (put d u ((kk + 1 : Nat) : Int) i)) ∧ Below w.heap.size w (wr.setCell ⟨kb, u, none⟩ (.int .i64 ((kk + 1 : Nat) : Int)))) :=
                      ⟨HR.out.1.set u _ hun, known_u HR.out.2.1 HEt.out.1 HEt.out.2 (by rw [HXY.out.2, hYk]) (by rw [HXY.out.1]; exact hXn), HR.out.2.2.setCell (p := ⟨kb, u, none⟩) hk _⟩
                    have e1 := (HEc.out _ HN.out.2.2).1
                    have e2 := (HEc.out _ HN.out.2.2).2
                    have e3 := HN.out.1.cell u hun
                    rw [put_same] at e3
                    have hcs : ((kk + 1 : Nat) : Int) = (kk : Int) + 1 := by omega
                    rw [hcs] at e1 e2 e3 HN
                    clear hcs
                    have tk : (((kk : Int) + 1) == (kk : Int)) = false := by rw [beq_eq_false_iff_ne]; omega
                    subst hYk
                    clear hXk
                    go_wp2_with fail
                    go_roundw
                    case rel => exact ⟨t + 1, _, by omega, by go_num, HN.out⟩
                    case measure => simp [intOf]; omega
                  · have HN : Hid (∀ i, Known E b kk (t + 1) i (d i)) := known_none HR.out.2.1 HEt.out.1 (by rw [HXY.out.1, HXY.out.2]; omega) (by rw [HXY.out.1, HXY.out.2]; omega)
                    subst hYk
                    clear hXk
                    go_wp2_with fail
                    go_roundw
                    case rel => exact ⟨t + 1, d, by omega, by go_num, HR.out.1, HN.out, HR.out.2.2⟩
                    case measure => simp [intOf]; omega
                · have HN : Hid (∀ i, Known E b kk (t + 1) i (d i)) := known_none HR.out.2.1 HEt.out.1 (by rw [HXY.out.1, HXY.out.2]; omega) (by rw [HXY.out.1, HXY.out.2]; omega)
                  have ty : (Y == (kk : Int)) = false := by rw [beq_eq_false_iff_ne]; exact hYk
                  clear hYk hXk
                  go_wp2_with fail
                  go_roundw
                  case rel => exact ⟨t + 1, d, by omega, by go_num, HR.out.1, HN.out, HR.out.2.2⟩
                  case measure => simp [intOf]; omega
            · obtain rfl : t = m := by omega
              have hKr : ∀ i, Known E b (kk + 1) 0 i (d i) := fun i => by
                have := HR.out.2.1 i
                rw [← HM.out.1] at this
                exact this.round
              have HKr : Hid (∀ i, Known E b (kk + 1) 0 i (d i)) := hKr
              clear hW hKn hbk hKr
              go_wp2_with fail
              go_roundw
              case rel => exact ⟨kk + 1, d, by omega, by go_num, HR.out.1, HKr.out, HR.out.2.2⟩
              case measure => simp [intOf]; omega
        · obtain rfl : kk = j := by omega
          have HF : Hid ((∀ i, i < kk → wr.cell? ⟨kb, i, none⟩ = some (.int .i64 (d i))) ∧ (∀ i, Far E b i (d i)) ∧ Below w.heap.size w wr) := ⟨hW.cell, fun i => (hKn i).far HM.out.2.1 hb, hbk⟩
          clear hW hKn hbk
          go_wp2_with fail
          go_ret
          exact ⟨kb, _, d, rfl, HF.out.2.2, hk, HF.out.1, HF.out.2.1⟩

end Go.Proofs.YtinflbkmemjgbabDoor.Pt
