/-
  Pr Ps Pv
-/
import Derived.Test.YtcfemppdeidjmacGreatW32
import Derived.Deep.LoopGhost
import Derived.WalkMore
namespace Go.Proofs.YtcfemppdeidjmacGreat.Pt
open Go.RowKit Go.Deep Go.Proofs.YtcfemppdeidjmacGreat.Br
open Go.RowKit (Below)
set_option linter.unusedVariables false

variable {w w' : World} {E : List (Nat × Nat)} {V : Nat → Value}

structure Fine (E : List (Nat × Nat)) (n : Nat) : Prop where
  lt : ∀ e ∈ E, e.1 < e.2 ∧ e.2 < n
  up : Up E
  few : E.length ≤ 200
  n1 : 1 ≤ n
  n60 : n ≤ 60

theorem Fine.among {n : Nat} (h : Fine E n) : Among n E := fun e he => by have := h.lt e he; omega
theorem Fine.next {n u y : Nat} (h : Fine E n) : Next E u y ↔ y ∈ nbl E u := (nbl_near h.lt h.few).adj u y
theorem Fine.near {n u y : Nat} (h : Fine E n) (hy : y ∈ nbl E u) : y < n := ((nbl_near h.lt h.few).lt u y hy).2

theorem valid_fine {f : Nat → Int × Int} {n m : Nat} (h : Valid (n : Nat) m f) : Fine (edges f m) n := by
  have hmay : ∀ j, j < m → May n f j := by simpa using h.2.2
  refine ⟨fun e he => ?_, edges_up hmay, by rw [edges_len]; exact h.2.1, by have := h.1; omega, by have := h.1; omega⟩
  obtain ⟨i, hi, rfl⟩ := List.mem_map.1 he
  have h2 := (hmay i (List.mem_range.1 hi)).1
  unfold Sane at h2
  show (f i).1.toNat < (f i).2.toNat ∧ (f i).2.toNat < n
  omega

theorem row_put {k n y : Nat} {d : Nat → Int} {x : Int} (h : w.rowIs k 3 n (fun i => .int .i64 (d i))) : (w.setCell ⟨k, y, none⟩ (.int .i64 x)).rowIs k 3 n (fun i => .int .i64 (put d y x i)) :=
  (h.set y _).congr fun i hi => by
    unfold put
    by_cases e : i = y
    · simp [e]
    · simp [e]

set_option maxRecDepth 100000 in
set_option maxHeartbeats 4000000 in
theorem far_walk {kn n a : Nat} (hN : NearAt w kn n V (nbl E)) (hE : Fine E n) (ha : a < n) :
    Calls Tryz.prog 94 #[.slice (some ⟨kn, 0, none⟩) n n, .int .i64 (a : Nat)] w fun e w' => ∃ (k : Nat) (d : Nat → Int), e = .returned (.slice (some ⟨k, 0, none⟩) n n) ∧ (∀ i, i < n → w'.cell? ⟨k, i, none⟩ = some (.int .i64 (d i))) ∧ (∀ i, Far E a i (d i)) ∧ Below w.heap.size w w' := by
  have HN : Hid (NearAt w kn n V (nbl E)) := hN
  have HE : Hid (Fine E n) := hE
  have hn60 := hE.n60
  have hrep := repeat_any (w := w.alloc (.cells #[.int .i64 (-1)] 3)) (g0 := w.heap.size) (o0 := 0) (c0 := 1) (x := -1) (by simp) hE.n1 hE.n60
  have hb0 := below_box w (.cells #[.int .i64 (-1)] 3)
  obtain ⟨i9, hj9, hi9, hi91, hi92⟩ := info_parts Tryz.infoInt
  clear hN hE
  go_enter Tryz.func94, Tryz.ntmps94
  go_wp2_with fail
  refine hrep.mono ?_
  rintro e w2 ⟨k, rfl, hk, hrow, hb⟩
  have c0 := hrow.cell ha
  have z0 := hrow.frozen a
  have j0 : (0 : Int) ≤ (a : Int) := by omega
  have j1 : (a : Int) < (n : Int) := by omega
  have hk1 : w.heap.size < k := by simp at hk; omega
  have hb2 : Below w.heap.size w w2 := below_step hb0 hb
  have HR0 : Hid ((w2.setCell ⟨k, a, none⟩ (.int .i64 0)).rowIs k 3 n (fun i => .int .i64 ((fun x => if x = a then (0 : Int) else -1) i))) := (row_put (d := fun _ => -1) hrow).congr fun i hi => by unfold put; rfl
  have HB0 : Hid (Below w.heap.size w (w2.setCell ⟨k, a, none⟩ (.int .i64 0))) := hb2.setCell (by show w.heap.size ≤ k; omega) _
  have HK : Hid (w.heap.size < k) := hk1
  have HWs : Hid ((w2.setCell ⟨k, a, none⟩ (.int .i64 0)).heap.size = w2.heap.size) := show _ = _ by simp
  clear hrep hb0 hb hb2 hk hrow hk1
  go_wp2_with fail
  generalize w2.setCell ⟨k, a, none⟩ (.int .i64 0) = W at HR0 HB0 HWs ⊢
  have hkW : k < W.heap.size := HR0.out.lt
  have HR1 : Hid ((W.alloc (.cells #[.int .i64 (a : Int)] 3)).rowIs k 3 n (fun i => .int .i64 ((fun x => if x = a then (0 : Int) else -1) i))) := HR0.out.alloc _
  have HB1 : Hid (Below w.heap.size w (W.alloc (.cells #[.int .i64 (a : Int)] 3))) := below_step HB0.out (below_box _ _)
  have HO1 : Hid ((W.alloc (.cells #[.int .i64 (a : Int)] 3)).ownsRow (k + 1) 3 1 (.slice (some ⟨w2.heap.size, 0, none⟩) 1 1) 1 (ints [a])) := show World.ownsRow .. by
    rw [← HWs.out]
    exact World.ownsRow_lit W #[.int .i64 (a : Int)] 1 (by omega) (by unfold maxLen; omega) rfl
  clear c0 z0 HR0 HB0 j0 j1
  go_wp2_with fail
  generalize W.alloc (.cells #[.int .i64 (a : Int)] 3) = W1 at HR1 HB1 HO1 ⊢
  go_loopw [6, 7] (fun vr vi wr => ∃ (i : Nat) (Q : List Nat) (d : Nat → Int), vi = .int .i64 (i : Nat) ∧ i ≤ Q.length ∧ Reach E a Q d i ∧ wr.rowIs k 3 n (fun i => .int .i64 (d i)) ∧ wr.ownsRow (k + 1) 3 1 vr Q.length (ints Q) ∧ Below w.heap.size w wr) (fun _ vi _ => n - (intOf vi).toNat)
  case atStart => exact ⟨0, [a], _, rfl, Nat.zero_le _, reach_start E a, HR1.out, HO1.out, HB1.out⟩
  case round =>
    clear HR1 HB1 HO1
    obtain ⟨i, Q, d, rfl, hi, hQ, hrow, hown, hbr⟩ := hrel
    have HRo : Hid (wr.rowIs k 3 n (fun i => .int .i64 (d i)) ∧ wr.ownsRow (k + 1) 3 1 u6 Q.length (ints Q) ∧ Below w.heap.size w wr) := ⟨hrow, hown, hbr⟩
    have HQ : Hid (Reach E a Q d i) := hQ
    obtain ⟨qa, qc, rfl, hI⟩ := own_ints hown rfl
    have hfew := hQ.few HE.out.among ha
    obtain ⟨Z, hZ⟩ : ∃ Z, Q.length = Z := ⟨_, rfl⟩
    have HZ : Hid (Q.length = Z) := hZ
    by_cases hlt : i < Q.length
    · obtain ⟨u, hu, huQ⟩ := hQ.lt hlt
      have hun := hQ.among HE.out.among ha huQ
      obtain ⟨gb, go, rfl, cu⟩ := hI.cell i hlt
      rw [List.getD_eq_getElem?_getD, hu] at cu
      replace cu : wr.cell? ⟨gb, go + i, none⟩ = some (.int .i64 (u : Nat)) := cu
      have cV := (HN.out.below hbr).cell u hun
      obtain ⟨ba, ca, eV, -⟩ := HN.out.list u hun
      obtain ⟨N, hlen⟩ : ∃ N, (nbl E u).length = N := ⟨_, rfl⟩
      have hN2 : N ≤ 200 := by rw [← hlen]; exact Nat.le_trans (nbl_len E u) HE.out.few
      rw [hlen] at eV
      rw [eV] at cV
      rw [hZ] at hlt hfew
      have HU : Hid (Q[i]? = some u ∧ (nbl E u).length = N ∧ V u = .slice ba N ca) := ⟨hu, hlen, eV⟩
      have i0 : (0 : Int) ≤ (i : Int) := by omega
      have i1 : (i : Int) < (Z : Int) := by omega
      have i2 : (0 : Int) ≤ (u : Int) := by omega
      have i3 : (u : Int) < (n : Int) := by omega
      rw [hZ]
      clear hQ hrow hown hbr hI huQ hu eV hlen hi hZ
      go_wp2_with fail
      go_loopw [6, 35] (fun vr vj wr => ∃ (j : Nat) (Q : List Nat) (d : Nat → Int), vj = .int .i64 (j : Nat) ∧ j ≤ N ∧ Reach E a Q d i ∧ Q[i]? = some u ∧ (∀ y ∈ (nbl E u).take j, y ∈ Q) ∧ wr.rowIs k 3 n (fun i => .int .i64 (d i)) ∧ wr.ownsRow (k + 1) 3 1 vr Q.length (ints Q) ∧ Below w.heap.size w wr) (fun _ vj _ => N - (intOf vj).toNat)
      case atStart => exact ⟨0, Q, d, rfl, Nat.zero_le _, HQ.out, HU.out.1, fun y hy => by simp at hy, HRo.out.1, by rw [HZ.out] at HRo ⊢; exact HRo.out.2.1, HRo.out.2.2⟩
      case round =>
        clear HRo HQ HZ cu cV
        obtain ⟨j, Q, d, rfl, hj, hQ, hu, hall, hrow, hown, hbr⟩ := hrel
        obtain ⟨Z, hZ⟩ : ∃ Z, Q.length = Z := ⟨_, rfl⟩
        have hfew := hQ.few HE.out.among ha
        have hiQ : i < Q.length := (List.getElem?_eq_some_iff.1 hu).1
        have HQ : Hid (Reach E a Q d i ∧ Q[i]? = some u ∧ (∀ y ∈ (nbl E u).take j, y ∈ Q) ∧ Q.length = Z) := ⟨hQ, hu, hall, hZ⟩
        have HRo : Hid (wr.rowIs k 3 n (fun i => .int .i64 (d i)) ∧ wr.ownsRow (k + 1) 3 1 u6 Z (ints Q) ∧ Below w.heap.size w wr) := ⟨hrow, by rw [← hZ]; exact hown, hbr⟩
        by_cases hlj : j < N
        · obtain ⟨y, hy⟩ : ∃ y, (nbl E u)[j]? = some y := ⟨(nbl E u)[j]'(by rw [HU.out.2.1]; exact hlj), List.getElem?_eq_getElem (by rw [HU.out.2.1]; exact hlj)⟩
          have hym : y ∈ nbl E u := List.mem_of_getElem? hy
          have hyn := HE.out.near hym
          have HY : Hid (Next E u y ∧ (nbl E u).take (j + 1) = (nbl E u).take j ++ [y]) := ⟨HE.out.next.2 hym, by rw [List.take_add_one, hy]; rfl⟩
          obtain ⟨ba', ca', eV, hIV⟩ := (HN.out.below hbr).list u hun
          rw [HU.out.2.2, HU.out.2.1] at eV
          rw [HU.out.2.1] at hIV
          obtain ⟨rfl, rfl⟩ : ba = ba' ∧ ca = ca' := by simpa using eV
          obtain ⟨gb, go, rfl, cy⟩ := hIV.cell j hlj
          rw [List.getD_eq_getElem?_getD, hy] at cy
          replace cy : wr.cell? ⟨gb, go + j, none⟩ = some (.int .i64 (y : Nat)) := cy
          have cd := hrow.cell hyn
          obtain ⟨X, hX⟩ : ∃ X, d y = X := ⟨_, rfl⟩
          rw [hX] at cd
          have HX : Hid (d y = X) := hX
          have j0 : (0 : Int) ≤ (j : Int) := by omega
          have j1 : (j : Int) < (N : Int) := by omega
          have j2 : (0 : Int) ≤ (y : Int) := by omega
          have j3 : (y : Int) < (n : Int) := by omega
          by_cases hq : X = -1
          · have hyQ : y ∉ Q := (hQ.known y).1 (by rw [hX, hq])
            obtain ⟨q, hq1, hq2⟩ := hQ.dist u (List.mem_of_getElem? hu)
            have hq3 := hq1.lt HE.out.among ha
            have cu := hrow.cell hun
            rw [hq2] at cu
            have z0 := hrow.frozen y
            obtain ⟨t, ht⟩ : ∃ t : Int, ((q + 1 : Nat) : Int) = t := ⟨_, rfl⟩
            have j4 : IntKind.i64.wrap ((q : Int) + 1) = t := by rw [IntKind.wrap_i64]; omega
            have HP : Hid (Reach E a (Q ++ [y]) (put d y t) i ∧ (Q ++ [y])[i]? = some u ∧ (∀ z ∈ (nbl E u).take (j + 1), z ∈ Q ++ [y]) ∧ (Q ++ [y]).length = Z + 1 ∧ ints (Q ++ [y]) = ints Q ++ [.int .i64 ((y : Nat) : Int)]) := ⟨by rw [← ht]; exact hQ.push hu HY.out.1 hyQ hq2, by rw [List.getElem?_append_left hiQ]; exact hu, fun z hz => by
              rw [HY.out.2] at hz
              rcases List.mem_append.1 hz with q | q
              · exact List.mem_append_left _ (hall z q)
              · exact List.mem_append_right _ q, by rw [List.length_append, hZ]; rfl, ints_snoc _ _⟩
            have HR2 : Hid ((wr.setCell ⟨k, y, none⟩ (.int .i64 t)).rowIs k 3 n (fun i => .int .i64 (put d y t i))) := row_put hrow
            have HB2 : Hid (Below w.heap.size w (wr.setCell ⟨k, y, none⟩ (.int .i64 t))) := hbr.setCell (by show w.heap.size ≤ k; have := HK.out; omega) _
            have HO2 : Hid ((wr.setCell ⟨k, y, none⟩ (.int .i64 t)).ownsRow (k + 1) 3 1 u6 Z (ints Q)) := ownsRow_setCell_below HRo.out.2.1 (by show k < k + 1; omega) _
            have hsz : (wr.setCell ⟨k, y, none⟩ (.int .i64 t)).heap.size = wr.heap.size := by simp
            have hs : k + 1 ≤ wr.heap.size := by have := hrow.lt; omega
            have hs2 : w.heap.size ≤ wr.heap.size := hbr.size
            have HC1 := cell_one_new (wr.setCell ⟨k, y, none⟩ (.int .i64 t)) (.int .i64 (y : Int)) 3
            rw [hsz] at HC1
            have HC1 : Hid (∀ i u, [Value.int .i64 (y : Int)][i]? = some u → ((wr.setCell ⟨k, y, none⟩ (.int .i64 t)).alloc (.cells #[.int .i64 (y : Int)] 3)).cell? (Addr.add ⟨wr.heap.size, 0, none⟩ i) = some u) := HC1
            obtain rfl := hq
            rw [hZ] at hfew
            have HI : Hid (u6.ownBlock = none ∨ True) := Or.inr trivial
            have HRl := HRo.out.2.1.lt
            have HL : Hid (∀ g, u6.ownBlock = some g → k + 1 ≤ g) := fun g e => (HRl g e).1
            clear hrow hown hbr hQ hu hall hZ hiQ hy hym hX hIV eV HRo HQ hq1 hq2 hyQ HI ht HRl
            go_wp2_with (first
              | (at_builtin; refine wpList_append_lies _ rfl (.tmp 52) (.tmp 54) 33 rfl (k + 1) 3 i9 (.int .i64 0) 1 8 Tryz.underlying33 hj9 hi9 hi91 hi92 rfl (by decide) u6 Z (ints Q) rfl (HO2.out.alloc _) ⟨wr.heap.size, 0, none⟩ 1 1 [.int .i64 (y : Int)] rfl rfl HC1.out ?c2 (by decide) ?c3 ?c4 ?c5 _ rfl ?_))
            case c2 => intro z hz; simp at hz; subst hz; rfl
            case c3 => unfold maxLen; omega
            case c4 => omega
            case c5 => first | omega | (simp; omega)
            intro g1 cap1 w6 hown hgrow hat hlt2
            have HR6 : Hid (w6.rowIs k 3 n (fun i => .int .i64 (put d y t i))) := (HR2.out.alloc _).of_block (hgrow.block k (by have := HR2.out.lt; simp at this ⊢; omega) (fun e => by have := HL.out k e.symm; omega))
            have HB6 : Hid (Below w.heap.size w w6) := (HB2.out.alloc (by rw [hsz]; exact hs2) _).grown hgrow (by simp; omega) (fun g e => by have := HL.out g e; have := HK.out; omega)
            have HO6 : Hid (w6.ownsRow (k + 1) 3 1 (.slice (some ⟨g1, 0, none⟩) (Z + 1) cap1) (Q ++ [y]).length (ints (Q ++ [y]))) := show World.ownsRow .. by
              rw [HP.out.2.2.2.1, HP.out.2.2.2.2]; exact hown
            clear hown hgrow hat hlt2 HC1 HR2 HB2 HO2
            go_wp2_with fail
            go_roundw
            case rel => exact ⟨j + 1, Q ++ [y], put d y t, by go_num, by omega, HP.out.1, HP.out.2.1, HP.out.2.2.1, HR6.out, HO6.out, HB6.out⟩
            case measure => simp [intOf]; omega
          · have t1 : (X == -1) = false := by rw [beq_eq_false_iff_ne]; exact hq
            have hyQ : y ∈ Q := Classical.byContradiction fun z => hq (by rw [← hX]; exact (hQ.known y).2 z)
            have HP : Hid (Reach E a Q d i ∧ Q[i]? = some u ∧ (∀ z ∈ (nbl E u).take (j + 1), z ∈ Q)) := ⟨hQ, hu, fun z hz => by
              rw [HY.out.2] at hz
              rcases List.mem_append.1 hz with q | q
              · exact hall z q
              · rw [List.mem_singleton] at q
                subst q
                exact hyQ⟩
            rw [hZ] at hfew
            clear hrow hown hbr hQ hu hall hiQ hy hym hX hIV eV HQ hq hyQ
            go_wp2_with fail
            go_roundw
            case rel => exact ⟨j + 1, Q, d, by go_num, by omega, HP.out.1, HP.out.2.1, HP.out.2.2, HRo.out.1, by rw [hZ]; exact HRo.out.2.1, HRo.out.2.2⟩
            case measure => simp [intOf]; omega
        · obtain rfl : j = N := by omega
          have HP : Hid (Reach E a Q d (i + 1) ∧ i + 1 ≤ Q.length) := ⟨hQ.step hu (fun y hy => hall y (by
            rw [List.take_of_length_le (by rw [HU.out.2.1]; exact Nat.le_refl _)]
            exact HE.out.next.1 hy)), hiQ⟩
          have hin : i < n := by omega
          clear hrow hown hbr hQ hu hall hiQ HQ hfew
          go_wp2_with fail
          go_roundw
          case rel => exact ⟨i + 1, Q, d, by go_num, HP.out.2, HP.out.1, HRo.out.1, by rw [hZ]; exact HRo.out.2.1, HRo.out.2.2⟩
          case measure => simp [intOf]; omega
    · obtain rfl : i = Q.length := by omega
      have HX : Hid (∀ i, Far E a i (d i)) := hQ.far
      clear hQ hrow hown hbr hI hfew HQ
      rw [hZ]
      go_wp2_with fail
      go_ret
      exact ⟨k, d, rfl, fun i hi => HRo.out.1.cell hi, HX.out, HRo.out.2.2⟩

end Go.Proofs.YtcfemppdeidjmacGreat.Pt

namespace Go.Proofs.YtcfemppdeidjmacGreat.Pt
open Go.RowKit Go.Deep Go.Proofs.YtcfemppdeidjmacGreat.Br
open Go.RowKit (Below)
set_option linter.unusedVariables false

variable {w w' : World} {E : List (Nat × Nat)} {V : Nat → Value}

theorem far_none {b a : Nat} {x : Int} (h : Far E b a x) (hno : ∀ k, ¬ Walk E b a k) : x = -1 := by
  rcases h with ⟨k, h1, _⟩ | ⟨_, h2⟩
  · exact absurd h1.1 (hno k)
  · exact h2

theorem far_is {b a g : Nat} {x : Int} (h : Far E b a x) : x = (g : Nat) ↔ Dist E b a g := by
  rcases h with ⟨k, h1, h2⟩ | ⟨h1, h2⟩
  · constructor
    · intro e
      obtain rfl : k = g := by omega
      exact h1
    · intro e
      rw [h2, h1.one e]
  · constructor
    · intro e; omega
    · intro e; exact absurd e.1 (h1 g)

set_option maxRecDepth 100000 in
set_option maxHeartbeats 1000000 in
theorem steps_none {kn n a b : Nat} (hN : NearAt w kn n V (nbl E)) (hE : Fine E n) (ha : a < n) (hb : b < n) (hno : ∀ k, ¬ Walk E b a k) :
    Calls Tryz.prog 50 #[.slice (some ⟨kn, 0, none⟩) n n, .int .i64 (a : Nat), .int .i64 (b : Nat)] w fun e w' => e = .returned (.tuple #[.slice none 0 0, .iface 102 (.int .i64 4)]) ∧ Below w.heap.size w w' := by
  have hf := far_walk hN hE hb
  have HO : Hid (∀ k, ¬ Walk E b a k) := hno
  clear hN hE hno
  go_enter Tryz.func50, Tryz.ntmps50
  go_wp2_with fail
  go_step3
  go_wp2_with fail
  refine hf.mono ?_
  rintro e w1 ⟨k, d, rfl, hc, hd, hb1⟩
  have c0 := hc a ha
  rw [far_none (hd a) HO.out] at c0
  have j0 : (0 : Int) ≤ (a : Int) := by omega
  have j1 : (a : Int) < (n : Int) := by omega
  clear hf hc hd
  go_wp2_with fail
  rw [Exit.noGoto_ret]
  go_ret2
  exact ⟨rfl, hb1⟩

structure Gone (E : List (Nat × Nat)) (b a k : Nat) (P : List Nat) (y g : Nat) : Prop where
  last : P.getD (k - g) 0 = y
  len : P.length = k - g + 1
  le : g ≤ k
  dist : Dist E b y g
  rest : ∀ l, Way E b y g (y :: l) → Way E b a k (P ++ l)

theorem gone_start {b a k : Nat} (h : Dist E b a k) : Gone E b a k [a] a k := ⟨by simp, by simp, Nat.le_refl _, h, fun l hl => hl⟩

theorem Gone.step {b a k y g z : Nat} {P : List Nat} (h : Gone E b a k P y (g + 1)) (hn : Next E y z) (hd : Dist E b z g) (hz : ∀ c, Next E y c → Dist E b c g → z ≤ c) : Gone E b a k (P ++ [z]) z g := by
  have hl := h.len
  have hle := h.le
  have hlen : (P ++ [z]).length = k - g + 1 := by rw [List.length_append, List.length_singleton]; omega
  refine ⟨?_, hlen, by omega, hd, fun l hw => ?_⟩
  · rw [List.getD_eq_getElem?_getD, List.getElem?_append_right (by omega), show k - g - P.length = 0 by omega]
    rfl
  · rw [List.append_assoc]
    exact h.rest _ (.step hn hd hz hw)

theorem Gone.done {b a k y : Nat} {P : List Nat} (h : Gone E b a k P y 0) : Way E b a k P := by
  have := h.rest [] (by rw [dist_zero h.dist]; exact Way.here)
  rwa [List.append_nil] at this

theorem own_cap {base n cap : Nat} {a : Option Addr} {ty : TypeId} {xs : List Value} (h : w.ownsRow base ty 1 (.slice a n cap) n xs) : n ≤ cap ∧ cap ≤ maxLen := by
  rcases h.2 with ⟨h0, _⟩ | ⟨g', cap', cur, hv, hb, hg, h1, h2, h3, h4⟩
  · cases h0
    exact ⟨Nat.le_refl _, Nat.zero_le _⟩
  · cases hv
    omega

set_option maxRecDepth 100000 in
set_option maxHeartbeats 4000000 in
theorem steps_some {kn n a b k : Nat} (hN : NearAt w kn n V (nbl E)) (hE : Fine E n) (ha : a < n) (hb : b < n) (hd : Dist E b a k) :
    Calls Tryz.prog 50 #[.slice (some ⟨kn, 0, none⟩) n n, .int .i64 (a : Nat), .int .i64 (b : Nat)] w fun e w' => ∃ (a' : Option Addr) (c' : Nat) (L : List Nat), e = .returned (.tuple #[.slice a' (k + 1) c', .nilIface]) ∧ Way E b a k L ∧ IntsAt w' a' (k + 1) L ∧ k + 1 ≤ c' ∧ c' ≤ maxLen ∧ Below w.heap.size w w' := by
  have hf := far_walk hN hE hb
  have HN : Hid (NearAt w kn n V (nbl E)) := hN
  have HE : Hid (Fine E n) := hE
  have HD : Hid (Dist E b a k) := hd
  have hn60 := hE.n60
  have hkn : k < n := hd.lt hE.among hb
  obtain ⟨i9, hj9, hi9, hi91, hi92⟩ := info_parts Tryz.infoInt
  clear hN hE hd
  go_enter Tryz.func50, Tryz.ntmps50
  go_wp2_with fail
  go_step3
  go_wp2_with fail
  refine hf.mono ?_
  rintro e w1 ⟨kl, d, rfl, hc, hd, hb1⟩
  have c0 := hc a ha
  rw [(far_is (hd a)).2 HD.out] at c0
  have j0 : (0 : Int) ≤ (a : Int) := by omega
  have j1 : (a : Int) < (n : Int) := by omega
  have t1 : ((k : Int) == -1) = false := by rw [beq_eq_false_iff_ne]; omega
  obtain ⟨t, ht⟩ : ∃ t : Int, (k : Int) - 1 = t := ⟨_, rfl⟩
  have t2 : IntKind.i64.wrap ((k : Int) - 1) = t := by rw [IntKind.wrap_i64]; omega
  have HW : Hid (∀ i, i < n → w1.cell? ⟨kl, i, none⟩ = some (.int .i64 (d i))) := hc
  have HF : Hid (∀ i, Far E b i (d i)) := hd
  have HN1 : Hid (NearAt w1 kn n V (nbl E)) := HN.out.below hb1
  have HB1 : Hid (Below w.heap.size w w1) := hb1
  have HO1 : Hid ((w1.alloc (.cells #[.int .i64 (a : Int)] 3)).ownsRow w1.heap.size 3 1 (.slice (some ⟨w1.heap.size, 0, none⟩) 1 1) 1 (ints [a])) := World.ownsRow_lit w1 #[.int .i64 (a : Int)] 1 (Nat.le_refl _) (by unfold maxLen; omega) rfl
  have HBa : Hid (Below w1.heap.size w1 (w1.alloc (.cells #[.int .i64 (a : Int)] 3))) := below_box _ _
  have cb := cell_keep HBa.out c0
  have HT : Hid ((k : Int) - 1 = t) := ht
  clear hf hc hd hb1 HN ht
  go_wp2_with fail
  generalize w1.alloc (.cells #[.int .i64 (a : Int)] 3) = W1 at HO1 HBa cb ⊢
  go_step3
  go_wp2_with fail
  clear c0 cb t2 j0 j1 t1
  go_loopg [9, 10] k (fun g v9 v10 wr => ∃ (P : List Nat) (y : Nat), v10 = .int .i64 ((g : Int) - 1) ∧ Gone E b a k P y g ∧ wr.ownsRow w1.heap.size 3 1 v9 P.length (ints P) ∧ Below w1.heap.size w1 wr)
  case atStart => exact ⟨[a], a, by rw [HT.out], gone_start HD.out, HO1.out, HBa.out⟩
  case round =>
    clear HO1 HBa
    obtain ⟨P, y, rfl, hG, hown, hbr⟩ := hrel
    have hlen := hG.len
    have hle := hG.le
    have HG : Hid (Gone E b a k P y gk) := hG
    have HO : Hid (wr.ownsRow w1.heap.size 3 1 u9 P.length (ints P)) := hown
    have HB : Hid (Below w1.heap.size w1 wr) := hbr
    obtain ⟨pa, pc, rfl, hI⟩ := own_ints hown rfl
    obtain ⟨Z, hZ⟩ : ∃ Z, P.length = Z := ⟨_, rfl⟩
    cases gk with
    | zero =>
      have hcap : P.length ≤ pc ∧ pc ≤ maxLen := own_cap hown
      have HX : Hid (Way E b a k P ∧ P.length = k + 1 ∧ IntsAt wr pa P.length P ∧ P.length ≤ pc ∧ pc ≤ maxLen ∧ Below w.heap.size w wr) := ⟨hG.done, by omega, hI, hcap.1, hcap.2, below_step HB1.out hbr⟩
      have hZk : Z = k + 1 := by omega
      rw [hZ, hZk]
      clear hG hown hbr hI HG hlen hle hcap HO HB hZ hZk
      go_wp2_with fail
      rw [Exit.noGoto_ret]
      go_ret2
      have hX := HX.out
      rw [hX.2.1] at hX
      exact ⟨pa, pc, P, rfl, hX.1, hX.2.2.1, hX.2.2.2.1, hX.2.2.2.2.1, hX.2.2.2.2.2⟩
    | succ g =>
      have hyn : y < n := walk_lt HE.out.among hG.dist.1 hb
      have h0 : (0 : Int) ≤ ((g + 1 : Nat) : Int) - 1 := by omega
      obtain ⟨gl, hgl⟩ : ∃ gl : Int, ((g + 1 : Nat) : Int) - 1 = gl := ⟨_, rfl⟩
      rw [hgl] at h0 ⊢
      obtain ⟨gb, go, rfl, cy⟩ := hI.cell (k - (g + 1)) (by omega)
      rw [hG.last] at cy
      have cV := (HN1.out.below hbr).cell y hyn
      obtain ⟨ba, ca, eV, -⟩ := HN1.out.list y hyn
      obtain ⟨N, hlN⟩ : ∃ N, (nbl E y).length = N := ⟨_, rfl⟩
      have hN2 : N ≤ 200 := by rw [← hlN]; exact Nat.le_trans (nbl_len E y) HE.out.few
      rw [hlN] at eV
      rw [eV] at cV
      obtain ⟨p, hp⟩ : ∃ p, k - (g + 1) = p := ⟨_, rfl⟩
      rw [hp] at cy
      have hZp : Z = p + 1 := by omega
      have HU : Hid ((nbl E y).length = N ∧ V y = .slice ba N ca ∧ ((g + 1 : Nat) : Int) - 1 = gl ∧ P.length = Z ∧ Z = p + 1 ∧ p = k - (g + 1)) := ⟨hlN, eV, hgl, hZ, hZp, hp.symm⟩
      have j1 : IntKind.i64.wrap ((Z : Int) - 1) = (p : Int) := by rw [IntKind.wrap_i64]; omega
      have j2 : (0 : Int) ≤ (p : Int) := by omega
      have j3 : (p : Int) < (Z : Int) := by omega
      have j4 : (0 : Int) ≤ (y : Int) := by omega
      have j5 : (y : Int) < (n : Int) := by omega
      have HOz : Hid (wr.ownsRow w1.heap.size 3 1 (.slice (some ⟨gb, go, none⟩) Z pc) Z (ints P)) := show World.ownsRow .. by rw [← hZ]; exact hown
      rw [hZ]
      clear hG hown hbr hI hlen hle hgl hp hZp eV hlN hZ HO
      go_wp2_with fail
      clear cV cy
      obtain ⟨W2, hW2⟩ : ∃ W2, W2 = wr := ⟨_, rfl⟩
      go_loopg [9, 43] N (fun g2 v9 v43 wr => ∃ j : Nat, j + g2 = N ∧ v43 = .int .i64 (j : Nat) ∧ v9 = .slice (some ⟨gb, go, none⟩) Z pc ∧ (∀ z ∈ (nbl E y).take j, ¬ Dist E b z g) ∧ W2 = wr)
      case atStart => exact ⟨0, by omega, rfl, rfl, fun z hz => by simp at hz, hW2⟩
      case round =>
        subst hW2
        obtain ⟨j, hjg, rfl, rfl, hno, rfl⟩ := hrel
        cases gk with
        | zero =>
          exfalso
          obtain ⟨c, c1, c2⟩ := HG.out.dist.next
          refine hno c ?_ c2
          rw [List.take_of_length_le (by rw [HU.out.1]; omega)]
          exact HE.out.next.1 c1
        | succ g2 =>
          have hlj : j < N := by omega
          obtain ⟨z, hz⟩ : ∃ z, (nbl E y)[j]? = some z := ⟨(nbl E y)[j]'(by rw [HU.out.1]; exact hlj), List.getElem?_eq_getElem (by rw [HU.out.1]; exact hlj)⟩
          have hzm : z ∈ nbl E y := List.mem_of_getElem? hz
          have hzn := HE.out.near hzm
          have HY : Hid (Next E y z ∧ (nbl E y).take (j + 1) = (nbl E y).take j ++ [z] ∧ (nbl E y)[j]? = some z) := ⟨HE.out.next.2 hzm, by rw [List.take_add_one, hz]; rfl, hz⟩
          obtain ⟨ba', ca', eV, hIV⟩ := (HN1.out.below HB.out).list y hyn
          rw [HU.out.2.1, HU.out.1] at eV
          rw [HU.out.1] at hIV
          obtain ⟨rfl, rfl⟩ : ba = ba' ∧ ca = ca' := by simpa using eV
          obtain ⟨gc, go2, rfl, cz⟩ := hIV.cell j hlj
          rw [List.getD_eq_getElem?_getD, hz] at cz
          replace cz : W2.cell? ⟨gc, go2 + j, none⟩ = some (.int .i64 (z : Nat)) := cz
          have cd := cell_keep HB.out (HW.out z hzn)
          obtain ⟨X, hX⟩ : ∃ X, d z = X := ⟨_, rfl⟩
          rw [hX] at cd
          have HX : Hid (Far E b z X) := by rw [← hX]; exact HF.out z
          have HNo : Hid (∀ z ∈ (nbl E y).take j, ¬ Dist E b z g) := hno
          have j6 : (0 : Int) ≤ (j : Int) := by omega
          have j7 : (j : Int) < (N : Int) := by omega
          have j8 : (0 : Int) ≤ (z : Int) := by omega
          have j9 : (z : Int) < (n : Int) := by omega
          clear hno hz hzm eV hIV hX
          by_cases hq : X = gl
          · have t3 : (X == gl) = true := by rw [beq_iff_eq]; exact hq
            have hdz : Dist E b z g := (far_is HX.out).1 (by have := HU.out.2.2.1; omega)
            have HP : Hid (Gone E b a k (P ++ [z]) z g ∧ (P ++ [z]).length = Z + 1 ∧ ints (P ++ [z]) = ints P ++ [.int .i64 ((z : Nat) : Int)]) := ⟨HG.out.step HY.out.1 hdz (first_near (nbl_up HE.out.up (fun e he => (HE.out.lt e he).1) y) (fun y => HE.out.next) HY.out.2.2 hdz HNo.out), by rw [List.length_append, HU.out.2.2.2.1]; rfl, ints_snoc _ _⟩
            have hZ60 : Z ≤ 60 := by have := HU.out; have := HG.out.le; omega
            have hg2 : IntKind.i64.wrap (gl - 1) = (g : Int) - 1 := by rw [IntKind.wrap_i64]; have := HU.out.2.2.1; have := HG.out.le; omega
            have hs1 : w1.heap.size ≤ W2.heap.size := HB.out.size
            clear hq hdz
            go_wp2_with (first
              | (at_builtin; refine wpList_append_lies _ rfl (.tmp 53) (.tmp 55) 33 rfl w1.heap.size 3 i9 (.int .i64 0) 1 8 Tryz.underlying33 hj9 hi9 hi91 hi92 rfl (by decide) (.slice (some ⟨gb, go, none⟩) Z pc) Z (ints P) rfl (HOz.out.alloc _) ⟨W2.heap.size, 0, none⟩ 1 1 [.int .i64 (z : Int)] rfl rfl (cell_one_new _ _ _) ?c2 (by decide) ?c3 ?c4 ?c5 _ rfl ?_))
            case c2 => intro z hz; simp at hz; subst hz; rfl
            case c3 => unfold maxLen; omega
            case c4 => omega
            case c5 => first | omega | (simp; omega)
            intro g1 cap1 w6 hown hgrow hat hlt2
            have HO6 : Hid (w6.ownsRow w1.heap.size 3 1 (.slice (some ⟨g1, 0, none⟩) (Z + 1) cap1) (P ++ [z]).length (ints (P ++ [z]))) := show World.ownsRow .. by
              rw [HP.out.2.1, HP.out.2.2]; exact hown
            have HB6 : Hid (Below w1.heap.size w1 w6) := (HB.out.alloc hs1 _).grown hgrow (by simp; omega) (fun g e => (HOz.out.lt g e).1)
            clear hown hgrow hat hlt2
            go_wp2_with fail
            go_roundg g
            case measure => omega
            case rel => exact ⟨P ++ [z], z, rfl, HP.out.1, HO6.out, HB6.out⟩
          · have t3 : (X == gl) = false := by rw [beq_eq_false_iff_ne]; exact hq
            have HNo2 : Hid (∀ x ∈ (nbl E y).take (j + 1), ¬ Dist E b x g) := fun x hx hdx => by
              rw [HY.out.2.1] at hx
              rcases List.mem_append.1 hx with q | q
              · exact HNo.out x q hdx
              · rw [List.mem_singleton] at q
                subst q
                exact hq (by rw [(far_is HX.out).2 hdx]; have := HU.out.2.2.1; omega)
            clear hq
            go_wp2_with fail
            go_roundg g2
            case measure => omega
            case rel => exact ⟨j + 1, by omega, by go_num, rfl, HNo2.out, rfl⟩

end Go.Proofs.YtcfemppdeidjmacGreat.Pt

namespace Go.Proofs.YtcfemppdeidjmacGreat.Pt
open Go.RowKit Go.Deep Go.Proofs.YtcfemppdeidjmacGreat.Br
open Go.RowKit (Below)
set_option linter.unusedVariables false

variable {w w' : World} {f : Nat → Int × Int}

theorem two_at (w : World) (a b : Int) : NumsAt (w.alloc (.cells #[.int .i64 a, .int .i64 b] 3)) (some ⟨w.heap.size, 0, none⟩) 2 (fun i => if i = 0 then a else b) := fun i hi => by
  match i, hi with
  | 0, _ => exact ⟨_, 0, rfl, by simp⟩
  | 1, _ => exact ⟨_, 0, rfl, by simp⟩

theorem NodesTold.yes {n : Int} {q : Nat} {g : Nat → Int} {v : Value} (h : NodesTold n q g v) (hn : ∀ i, i < q → Node n (g i)) : v = .nilIface := by
  rcases h with ⟨⟨i, hi, hx⟩, _⟩ | ⟨_, h⟩
  · exact absurd (hn i hi) hx
  · exact h

set_option maxRecDepth 100000 in
set_option maxHeartbeats 1000000 in
theorem short_told {ad : Option Addr} {m c n a b : Nat} (h : EgAt w ad m f) (hv : Valid (n : Nat) m f) (ha : a < n) (hb : b < n) (hno : ∀ k, ¬ Walk (edges f m) b a k) :
    Calls Tryz.prog 13 #[.int .i64 (n : Nat), .slice ad m c, .int .i64 (a : Nat), .int .i64 (b : Nat)] w fun e w' => ∃ (a' : Option Addr) (c' : Nat), e = .returned (.tuple #[.slice a' 0 c', .iface 102 (.int .i64 4)]) ∧ Below w.heap.size w w' := by
  have hb0 := below_box w (.cells #[.int .i64 (a : Nat), .int .i64 (b : Nat)] 3)
  have hc := pcheck_ok (c := c) (c' := 2) (h.below hb0) (n : Nat) hv (two_at w (a : Nat) (b : Nat)) (by omega)
  have HV : Hid (Valid (n : Nat) m f) := hv
  have HH : Hid (EgAt w ad m f) := h
  have HN0 : Hid (∀ k, ¬ Walk (edges f m) b a k) := hno
  clear h hv hno
  go_enter Tryz.func13, Tryz.ntmps13
  go_wp2_with fail
  refine hc.mono ?_
  rintro e w1 ⟨v, rfl, hT, hb1⟩
  obtain rfl := hT.yes fun i hi => by
    show Node _ (if i = 0 then _ else _)
    split
    · unfold Node; omega
    · unfold Node; omega
  have HB1 : Hid (Below w.heap.size w w1) := below_step hb0 hb1
  clear hc hT hb1 hb0
  go_wp2_with fail
  refine (neighbours_any (HH.out.below HB1.out) HV.out).mono ?_
  rintro e w2 ⟨kn, V, rfl, hN, hb2⟩
  have HN : Hid (NearAt w2 kn n V (nbl (edges f m))) := hN
  have HB2 : Hid (Below w.heap.size w w2) := below_step HB1.out hb2
  clear hN hb2
  go_wp2_with fail
  refine (steps_none HN.out (valid_fine HV.out) ha hb HN0.out).mono ?_
  rintro e w3 ⟨rfl, hb3⟩
  have HX : Hid (Below w.heap.size w w3) := below_step HB2.out hb3
  clear hb3
  go_wp2_with fail
  go_ret2
  exact ⟨_, _, rfl, HX.out⟩

set_option maxRecDepth 100000 in
set_option maxHeartbeats 1000000 in
theorem short_goes {ad : Option Addr} {m c n a b k : Nat} (h : EgAt w ad m f) (hv : Valid (n : Nat) m f) (ha : a < n) (hb : b < n) (hd : Dist (edges f m) b a k) :
    Calls Tryz.prog 13 #[.int .i64 (n : Nat), .slice ad m c, .int .i64 (a : Nat), .int .i64 (b : Nat)] w fun e w' => ∃ (a' : Option Addr) (c' : Nat) (L : List Nat), e = .returned (.tuple #[.slice a' (k + 1) c', .nilIface]) ∧ Way (edges f m) b a k L ∧ IntsAt w' a' (k + 1) L ∧ k + 1 ≤ c' ∧ c' ≤ maxLen ∧ Below w.heap.size w w' := by
  have hb0 := below_box w (.cells #[.int .i64 (a : Nat), .int .i64 (b : Nat)] 3)
  have hc := pcheck_ok (c := c) (c' := 2) (h.below hb0) (n : Nat) hv (two_at w (a : Nat) (b : Nat)) (by omega)
  have HV : Hid (Valid (n : Nat) m f) := hv
  have HH : Hid (EgAt w ad m f) := h
  have HD : Hid (Dist (edges f m) b a k) := hd
  clear h hv hd
  go_enter Tryz.func13, Tryz.ntmps13
  go_wp2_with fail
  refine hc.mono ?_
  rintro e w1 ⟨v, rfl, hT, hb1⟩
  obtain rfl := hT.yes fun i hi => by
    show Node _ (if i = 0 then _ else _)
    split
    · unfold Node; omega
    · unfold Node; omega
  have HB1 : Hid (Below w.heap.size w w1) := below_step hb0 hb1
  clear hc hT hb1 hb0
  go_wp2_with fail
  refine (neighbours_any (HH.out.below HB1.out) HV.out).mono ?_
  rintro e w2 ⟨kn, V, rfl, hN, hb2⟩
  have HN : Hid (NearAt w2 kn n V (nbl (edges f m))) := hN
  have HB2 : Hid (Below w.heap.size w w2) := below_step HB1.out hb2
  clear hN hb2
  go_wp2_with fail
  refine (steps_some HN.out (valid_fine HV.out) ha hb HD.out).mono ?_
  rintro e w3 ⟨a', c', L, rfl, q1, q2, q3, q4, hb3⟩
  have HX : Hid (Way (edges f m) b a k L ∧ IntsAt w3 a' (k + 1) L ∧ k + 1 ≤ c' ∧ c' ≤ maxLen ∧ Below w.heap.size w w3) := ⟨q1, q2, q3, q4, below_step HB2.out hb3⟩
  clear hb3 q1 q2 q3 q4
  go_wp2_with fail
  go_ret2
  exact ⟨_, _, L, rfl, HX.out⟩

end Go.Proofs.YtcfemppdeidjmacGreat.Pt
