/-
  The statements' own answer: from when till when each edge is there.
-/
import Derived.Test.YthhojlbfnffdeabDoorOe
namespace Go.Proofs.YthhojlbfnffdeabDoor.As
open Go.RowKit Go.Deep
open Go.RowKit (Below)
set_option linter.unusedVariables false

variable {w w' : World} {f : Nat → Int × Int × Int}

set_option maxRecDepth 100000 in
theorem Tryd.infoTwo : (Tryd.prog.info? 57).map (fun i => (i.zero, i.size, i.bytes)) = some (some (.agg #[.int .i64 0, .int .i64 0]), 2, 16) := by kernel_rfl

theorem two_put (w : World) (x y : Nat) (ty : TypeId) : ∀ j u, (two (x, y))[j]? = some u → (w.alloc (.cells #[.int .i64 (x : Int), .int .i64 (y : Int)] ty)).cell? (Addr.add ⟨w.heap.size, 0, none⟩ j) = some u := fun j u hj => by
  match j, hj with
  | 0, hj => cases hj; simp [Addr.add]
  | 1, hj => cases hj; simp [Addr.add]

theorem spans_len (f : Nat → Int × Int × Int) (m t : Nat) : (spans f m t).length ≤ t := by
  unfold spans
  rw [List.length_map]
  exact places_len f 1 t

set_option maxRecDepth 100000 in
set_option maxHeartbeats 8000000 in
theorem spans_of {a : Option Addr} {m c n : Nat} (h : EvAt w a m f) (hm : m ≤ 120) (hmay : ∀ j, j < m → May n f j) :
    Calls Tryd.prog 8 #[.slice a m c] w fun e w' => ∃ v, e = .returned v ∧ w'.ownsRow w.heap.size 57 2 v (spans f m m).length (twos (spans f m m)) ∧ Below w.heap.size w w' := by
  have HH : Hid (EvAt w a m f) := h
  have HMays : Hid (∀ j, j < m → May n f j) := hmay
  obtain ⟨z0, hi0, hz0, hz1, hz2⟩ := info_parts Tryd.infoTwo
  have hbuild : ∀ (x y : Int) (W : World), (Instr.build 57 #[(0, .int .i64 x), (1, .int .i64 y)]).run Tryd.prog W = .ok (.agg #[.int .i64 x, .int .i64 y]) W := fun x y W => run_build W 57 _ _ (by kernel_rfl)
  clear h hmay
  go_enter Tryd.func8, Tryd.ntmps8
  go_wp2_with fail
  go_loopw [3, 4, 5] (fun vo i _ wr => ∃ j : Nat, j ≤ m ∧ i = .int .i64 (j : Nat) ∧ Below w.heap.size w wr ∧ wr.ownsRow w.heap.size 57 2 vo (spans f m j).length (twos (spans f m j))) (fun _ i _ _ => m - (intOf i).toNat)
  case atStart => exact ⟨0, Nat.zero_le _, rfl, Below.refl _ _, World.ownsRow_nil ..⟩
  case round =>
    obtain ⟨j, hj, rfl, hb, hown⟩ := hrel
    by_cases hlt : j < m
    · obtain ⟨b, o, rfl, c1, c2, c3⟩ := HH.out.below hb j hlt
      have hmj := HMays.out j hlt
      have hkl := spans_len f m j
      obtain ⟨K, hK⟩ : ∃ K, (spans f m j).length = K := ⟨_, rfl⟩
      rw [hK] at hown hkl
      obtain ⟨q, hq⟩ : ∃ q, (f j).1 = q := ⟨_, rfl⟩
      obtain ⟨u, hx⟩ := Int.eq_ofNat_of_zero_le hmj.a.1
      obtain ⟨v, hy⟩ := Int.eq_ofNat_of_zero_le hmj.b.1
      rw [hq] at c1
      rw [hx] at c2
      rw [hy] at c3
      have HQ : Hid ((f j).1 = q) := hq
      have HEO : Hid (eOf f j = (min u v, max u v)) := eOf_nat hx hy
      have HK : Hid ((spans f m j).length = K) := hK
      have HB : Hid (Below w.heap.size w wr) := hb
      have HV : Hid (wr.ownsRow w.heap.size 57 2 u3 K (twos (spans f m j))) := hown
      have i0 : (0 : Int) ≤ (j : Int) := by omega
      have i1 : (j : Int) < (m : Int) := by omega
      have hbs : w.heap.size ≤ wr.heap.size := hb.size
      clear hq hx hy hmj hK hb hown
      by_cases hq1 : q = 1
      · subst hq1
        have HC : Hid (wr.cell? ⟨b, o + j * 3 + 1, none⟩ = some (.int .i64 (u : Nat)) ∧ wr.cell? ⟨b, o + j * 3 + 2, none⟩ = some (.int .i64 (v : Nat))) := ⟨c2, c3⟩
        have hwr1 : IntKind.i64.wrap ((j : Int) + 1) = ((j + 1 : Nat) : Int) := by rw [IntKind.wrap_i64]; omega
        clear c2 c3
        go_wp2_with fail
        obtain ⟨W, rfl⟩ : ∃ W : World, W = wr := ⟨_, rfl⟩
        go_loopw [5] (fun k wr => ∃ t : Nat, j + 1 ≤ t ∧ t ≤ m ∧ k = .int .i64 (t : Nat) ∧ Below W.heap.size W wr ∧ ∀ s, j < s → s < t → ¬ ((f s).1 = 2 ∧ eOf f s = eOf f j)) (fun k _ => m - (intOf k).toNat)
        case atStart => exact ⟨j + 1, Nat.le_refl _, by omega, by go_num, Below.refl _ _, fun s h1 h2 => by omega⟩
        case round =>
          obtain ⟨t, ht1, ht2, rfl, hbi, hno⟩ := hrel
          have HNo : Hid (∀ s, j < s → s < t → ¬ ((f s).1 = 2 ∧ eOf f s = eOf f j)) := hno
          have HBI : Hid (Below W.heap.size W wr) := hbi
          clear hno hbi
          by_cases htm : t < m
          · have hmt := HMays.out t htm
            obtain ⟨ut, hxt⟩ := Int.eq_ofNat_of_zero_le hmt.a.1
            obtain ⟨vt, hyt⟩ := Int.eq_ofNat_of_zero_le hmt.b.1
            obtain ⟨qt, hqt⟩ : ∃ q, (f t).1 = q := ⟨_, rfl⟩
            obtain ⟨b2, o2, eb, d1, d2, d3⟩ := HH.out.below (below_step HB.out HBI.out) t htm
            simp only [Option.some.injEq, Addr.mk.injEq, and_true] at eb
            obtain ⟨rfl, rfl⟩ := eb
            have e2 := cell_keep HBI.out HC.out.1
            have e3 := cell_keep HBI.out HC.out.2
            rw [hqt] at d1
            rw [hxt] at d2
            rw [hyt] at d3
            have HQt : Hid ((f t).1 = qt) := hqt
            have HEt : Hid (eOf f t = (min ut vt, max ut vt)) := eOf_nat hxt hyt
            have i2 : (0 : Int) ≤ (t : Int) := by omega
            have i3 : (t : Int) < (m : Int) := by omega
            clear hmt hxt hyt hqt
            by_cases hq2 : qt = 2
            · subst hq2
              obtain ⟨lo, hlo⟩ : ∃ lo : Int → Int → Int, ∀ x y, lo x y = min x y := ⟨fun x y => min x y, fun _ _ => rfl⟩
              obtain ⟨hi, hhi⟩ : ∃ hi : Int → Int → Int, ∀ x y, hi x y = max x y := ⟨fun x y => max x y, fun _ _ => rfl⟩
              have hof : ∀ (x y : Int) (W : World), Calls Tryd.prog 17 #[.int .i64 x, .int .i64 y] W fun e w' => e = .returned (.agg #[.int .i64 (lo x y), .int .i64 (hi x y)]) ∧ w' = W.alloc (.cells #[.int .i64 (lo x y), .int .i64 (hi x y)] 50) := fun x y W => by rw [hlo, hhi]; exact of_edge x y
              obtain ⟨a1, ha1⟩ : ∃ z, lo (ut : Nat) (vt : Nat) = z := ⟨_, rfl⟩
              obtain ⟨b1, hb1⟩ : ∃ z, hi (ut : Nat) (vt : Nat) = z := ⟨_, rfl⟩
              obtain ⟨a2, ha2⟩ : ∃ z, lo (u : Nat) (v : Nat) = z := ⟨_, rfl⟩
              obtain ⟨b2, hb2⟩ : ∃ z, hi (u : Nat) (v : Nat) = z := ⟨_, rfl⟩
              have HEq : Hid (eOf f t = eOf f j ↔ a1 = a2 ∧ b1 = b2) := show _ ↔ _ by
                rw [HEt.out, HEO.out, ← ha1, ← ha2, ← hb1, ← hb2, hlo, hlo, hhi, hhi, Prod.ext_iff]
                show min ut vt = min u v ∧ max ut vt = max u v ↔ _
                omega
              clear hlo hhi
              by_cases hmin : a1 = a2
              · by_cases hmax : b1 = b2
                · have HT : Hid (t < m → (f t).1 = 2 ∧ eOf f t = eOf f j) := fun _ => ⟨HQt.out, HEq.out.2 ⟨hmin, hmax⟩⟩
                  have t1 : (a1 == a2) = true := by simpa using hmin
                  have t2 : (b1 == b2) = true := by simpa using hmax
                  clear hmin hmax
                  go_wp2_with fail
                  go_region_held3 (fun V => V.cell? ⟨b, o + t * 3, none⟩ = some (.int .i64 2) ∧ V.cell? ⟨b, o + t * 3 + 1, none⟩ = some (.int .i64 (ut : Nat)) ∧ V.cell? ⟨b, o + t * 3 + 2, none⟩ = some (.int .i64 (vt : Nat)) ∧ V.cell? ⟨b, o + j * 3 + 1, none⟩ = some (.int .i64 (u : Nat)) ∧ V.cell? ⟨b, o + j * 3 + 2, none⟩ = some (.int .i64 (v : Nat))) (first | (go_keep; done) | exact ⟨d1, d2, d3, e2, e3⟩)
                    (first
                      | (go_at_call 17; refine (hof _ _ _).mono ?_; rintro e w9 ⟨rfl, rfl⟩; simp only [ha1, hb1, ha2, hb2]))
                  have hbx : Below W.heap.size W ((wr.alloc (.cells #[.int .i64 a1, .int .i64 b1] 50)).drew.alloc (.cells #[.int .i64 a2, .int .i64 b2] 50)) := HBI.out.trans ((((Below.refl _ _).alloc (Nat.le_refl _) _).drew.alloc (by simp) _).mono HBI.out.size)
                  generalize ((wr.alloc (.cells #[.int .i64 a1, .int .i64 b1] 50)).drew.alloc (.cells #[.int .i64 a2, .int .i64 b2] 50)) = wx at *
                  have HTil : Hid (til f m j = t) := til_is hlt (by omega) (by omega) HNo.out HT.out
                  have HBi : Hid (Below w.heap.size w wx) := HB.out.trans (hbx.mono HB.out.size)
                  have HVi : Hid (wx.ownsRow w.heap.size 57 2 u3 K (twos (spans f m j))) := own_keep HV.out hbx
                  have hxs : w.heap.size ≤ wx.heap.size := HBi.out.size
                  clear hbx d1 d2 d3 e2 e3 t1 t2 ha1 hb1 ha2 hb2 hof
                  go_wp2_with (first
                    | (at_builtin; refine wpList_append_lies _ rfl (.tmp 59) (.tmp 63) 32 rfl w.heap.size 57 z0 (.agg #[.int .i64 0, .int .i64 0]) 2 16 Tryd.underlying32 hi0 hz0 hz1 hz2 rfl (by decide) u3 K (twos (spans f m j)) rfl (HVi.out.alloc _) ⟨wx.heap.size, 0, none⟩ 1 1 (two (j, t)) rfl rfl (two_put _ _ _ _) ?c2 (by decide) ?c3 ?c4 ?c5 _ rfl ?_))
                  case c2 => intro z hz; exact two_one [(j, t)] z (by simpa [twos] using hz)
                  case c3 => unfold maxLen; omega
                  case c4 => omega
                  case c5 => simp; omega
                  intro g1 cap1 w6 hown hgrow hat hlt2
                  have HB6 : Hid (Below w.heap.size w w6) := (HBi.out.alloc hxs _).grown hgrow (by simp; omega) (fun k e => (HVi.out.lt k e).1)
                  have HO6 : Hid (w6.ownsRow w.heap.size 57 2 (.slice (some ⟨g1, 0, none⟩) (K + 1) cap1) (spans f m (j + 1)).length (twos (spans f m (j + 1)))) := show World.ownsRow .. by
                    rw [spans_add HQ.out, HTil.out, twos_snoc, List.length_append, HK.out]; exact hown
                  clear hown hgrow hat hlt2
                  go_wp2_with fail
                  go_roundw
                  case rel => exact ⟨j + 1, by omega, by go_num, HB6.out, HO6.out⟩
                  case measure => simp [intOf]; omega
                · have t1 : (a1 == a2) = true := by simpa using hmin
                  have t2 : (b1 == b2) = false := by rw [beq_eq_false_iff_ne]; exact hmax
                  have HNe : Hid (eOf f t ≠ eOf f j) := fun q => hmax (HEq.out.1 q).2
                  clear hmin hmax
                  have HNo2 : Hid (∀ s, j < s → s < t + 1 → ¬ ((f s).1 = 2 ∧ eOf f s = eOf f j)) := fun s h1 h2 => by
                    rcases Nat.lt_or_ge s t with h | h
                    · exact HNo.out s h1 h
                    · obtain rfl : s = t := by omega
                      exact fun q => HNe.out q.2
                  go_wp2_with fail
                  go_region_held3 (fun V => V.cell? ⟨b, o + t * 3, none⟩ = some (.int .i64 2) ∧ V.cell? ⟨b, o + t * 3 + 1, none⟩ = some (.int .i64 (ut : Nat)) ∧ V.cell? ⟨b, o + t * 3 + 2, none⟩ = some (.int .i64 (vt : Nat)) ∧ V.cell? ⟨b, o + j * 3 + 1, none⟩ = some (.int .i64 (u : Nat)) ∧ V.cell? ⟨b, o + j * 3 + 2, none⟩ = some (.int .i64 (v : Nat))) (first | (go_keep; done) | exact ⟨d1, d2, d3, e2, e3⟩)
                    (first
                      | (go_at_call 17; refine (hof _ _ _).mono ?_; rintro e w9 ⟨rfl, rfl⟩; simp only [ha1, hb1, ha2, hb2]))
                  go_wp2_with fail
                  go_roundw
                  case rel => exact ⟨t + 1, by omega, by omega, by go_num, HBI.out.trans ((((Below.refl _ _).drew.alloc (Nat.le_refl _) _).alloc (by simp) _).mono HBI.out.size), HNo2.out⟩
                  case measure => simp [intOf]; omega
              · have t1 : (a1 == a2) = false := by rw [beq_eq_false_iff_ne]; exact hmin
                have HNe : Hid (eOf f t ≠ eOf f j) := fun q => hmin (HEq.out.1 q).1
                clear hmin
                have HNo2 : Hid (∀ s, j < s → s < t + 1 → ¬ ((f s).1 = 2 ∧ eOf f s = eOf f j)) := fun s h1 h2 => by
                  rcases Nat.lt_or_ge s t with h | h
                  · exact HNo.out s h1 h
                  · obtain rfl : s = t := by omega
                    exact fun q => HNe.out q.2
                go_wp2_with fail
                go_region_held3 (fun V => V.cell? ⟨b, o + t * 3, none⟩ = some (.int .i64 2) ∧ V.cell? ⟨b, o + t * 3 + 1, none⟩ = some (.int .i64 (ut : Nat)) ∧ V.cell? ⟨b, o + t * 3 + 2, none⟩ = some (.int .i64 (vt : Nat)) ∧ V.cell? ⟨b, o + j * 3 + 1, none⟩ = some (.int .i64 (u : Nat)) ∧ V.cell? ⟨b, o + j * 3 + 2, none⟩ = some (.int .i64 (v : Nat))) (first | (go_keep; done) | exact ⟨d1, d2, d3, e2, e3⟩)
                  (first
                    | (go_at_call 17; refine (hof _ _ _).mono ?_; rintro e w9 ⟨rfl, rfl⟩; simp only [ha1, hb1, ha2, hb2]))
                go_wp2_with fail
                go_roundw
                case rel => exact ⟨t + 1, by omega, by omega, by go_num, HBI.out.trans ((((Below.refl _ _).drew.alloc (Nat.le_refl _) _).alloc (by simp) _).mono HBI.out.size), HNo2.out⟩
                case measure => simp [intOf]; omega
            · have t1 : (qt == 2) = false := by rw [beq_eq_false_iff_ne]; exact hq2
              have t3 : (qt != 2) = true := by rw [bne, t1]; rfl
              have HNo2 : Hid (∀ s, j < s → s < t + 1 → ¬ ((f s).1 = 2 ∧ eOf f s = eOf f j)) := fun s h1 h2 => by
                rcases Nat.lt_or_ge s t with h | h
                · exact HNo.out s h1 h
                · obtain rfl : s = t := by omega
                  exact fun q => hq2 (HQt.out.symm.trans q.1)
              have HNo3 := HNo2
              clear hq2 HNo2
              have HNo2 := HNo3
              clear HNo3
              go_wp2_with fail
              go_quiet (fail)
              obtain ⟨wx, hwx⟩ : ∃ wx, wr.drewN nq = wx := ⟨_, rfl⟩
              have hbx : Below W.heap.size W wx := by rw [← hwx]; exact HBI.out.trans ((below_drewN rfl).mono HBI.out.size)
              rw [hwx]
              clear hwx
              go_wp2_with fail
              go_roundw
              case rel => exact ⟨t + 1, by omega, by omega, by go_num, hbx, HNo2.out⟩
              case measure => simp [intOf]; omega
          · obtain rfl : t = m := by omega
            have HT : Hid (t < t → (f t).1 = 2 ∧ eOf f t = eOf f j) := fun q => absurd q (Nat.lt_irrefl _)
            go_wp2_with fail
            go_quiet (fail)
            obtain ⟨wx, hwx⟩ : ∃ wx, wr.drewN nq = wx := ⟨_, rfl⟩
            have hbx : Below W.heap.size W wx := by rw [← hwx]; exact HBI.out.trans ((below_drewN rfl).mono HBI.out.size)
            rw [hwx]
            clear hwx
            have HTil : Hid (til f t j = t) := til_is hlt (by omega) (by omega) HNo.out HT.out
            have HBi : Hid (Below w.heap.size w wx) := HB.out.trans (hbx.mono HB.out.size)
            have HVi : Hid (wx.ownsRow w.heap.size 57 2 u3 K (twos (spans f t j))) := own_keep HV.out hbx
            have hxs : w.heap.size ≤ wx.heap.size := HBi.out.size
            clear hbx
            go_wp2_with (first
              | (at_builtin; refine wpList_append_lies _ rfl (.tmp 59) (.tmp 63) 32 rfl w.heap.size 57 z0 (.agg #[.int .i64 0, .int .i64 0]) 2 16 Tryd.underlying32 hi0 hz0 hz1 hz2 rfl (by decide) u3 K (twos (spans f t j)) rfl (HVi.out.alloc _) ⟨wx.heap.size, 0, none⟩ 1 1 (two (j, t)) rfl rfl (two_put _ _ _ _) ?c2 (by decide) ?c3 ?c4 ?c5 _ rfl ?_))
            case c2 => intro z hz; exact two_one [(j, t)] z (by simpa [twos] using hz)
            case c3 => unfold maxLen; omega
            case c4 => omega
            case c5 => simp; omega
            intro g1 cap1 w6 hown hgrow hat hlt2
            have HB6 : Hid (Below w.heap.size w w6) := (HBi.out.alloc hxs _).grown hgrow (by simp; omega) (fun k e => (HVi.out.lt k e).1)
            have HO6 : Hid (w6.ownsRow w.heap.size 57 2 (.slice (some ⟨g1, 0, none⟩) (K + 1) cap1) (spans f t (j + 1)).length (twos (spans f t (j + 1)))) := show World.ownsRow .. by
              rw [spans_add HQ.out, HTil.out, twos_snoc, List.length_append, HK.out]; exact hown
            clear hown hgrow hat hlt2
            go_wp2_with fail
            go_roundw
            case rel => exact ⟨j + 1, by omega, by go_num, HB6.out, HO6.out⟩
            case measure => simp [intOf]; omega
      · have t1 : (q == 1) = false := by rw [beq_eq_false_iff_ne]; exact hq1
        have HN : Hid (spans f m (j + 1) = spans f m j) := spans_other (by rw [HQ.out]; exact hq1)
        clear hq1
        go_wp2_with fail
        go_roundw
        case rel => exact ⟨j + 1, by omega, by go_num, HB.out, by rw [HN.out, HK.out]; exact HV.out⟩
        case measure => simp [intOf]; omega
    · obtain rfl : j = m := by omega
      have HR : Hid (wr.ownsRow w.heap.size 57 2 u3 (spans f j j).length (twos (spans f j j)) ∧ Below w.heap.size w wr) := ⟨hown, hb⟩
      clear hown hb
      go_wp2_with fail
      go_ret
      exact ⟨u3, rfl, HR.out⟩

end Go.Proofs.YthhojlbfnffdeabDoor.As
