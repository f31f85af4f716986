/-
  The statements' own answer: the first of the shortest ways, where there is one.
-/
import Derived.Test.YtinflbkmemjgbabDoorPd
namespace Go.Proofs.YtinflbkmemjgbabDoor.Pt
open Go.RowKit Go.Deep Go.Proofs.YtinflbkmemjgbabDoor.Br
open Go.RowKit (Below)
set_option linter.unusedVariables false

variable {w w' : World} {E : List (Nat × Nat)}

theorem ints_one (x : Nat) : [Value.int .i64 ((x : Nat) : Int)] = ints [x] := rfl

set_option maxRecDepth 100000 in
set_option maxHeartbeats 4000000 in
theorem short_some {ad : Option Addr} {m c n a b k : Nat} (hE : EdgesAt w ad E) (hm : E.length = m) (hm2 : m ≤ 200) (hn : 0 < n) (hn2 : n ≤ 60) (ha : Among n E) (hl : ∀ e ∈ E, e.1 < e.2) (haa : a < n) (hb : b < n) (hd0 : Dist E b a k) :
    Calls Tryd.prog 35 #[.int .i64 (n : Nat), .slice ad m c, .int .i64 (a : Nat), .int .i64 (b : Nat)] w fun e w' => ∃ v L, e = .returned (.tuple #[v, .bool true]) ∧ Way E b a k L ∧ w'.ownsRow w.heap.size 3 1 v L.length (ints L) ∧ Below w.heap.size w w' := by
  have hf := far_of (c := c) hE hm hm2 hn hn2 ha (fun e he => Nat.ne_of_lt (hl e he)) hb
  obtain ⟨i0, hi0, hz0, hz1, hz2⟩ := info_parts Tryd.infoInt
  have HE : Hid (EdgesAt w ad E ∧ E.length = m ∧ Among n E ∧ ∀ e ∈ E, e.1 < e.2) := ⟨hE, hm, ha, hl⟩
  have HD0 : Hid (Dist E b a k) := hd0
  have hkn : k < n := hd0.lt ha hb
  clear hE hm ha hl hd0
  go_enter Tryd.func35, Tryd.ntmps35
  go_wp2_with fail
  refine hf.mono ?_
  rintro e w1 ⟨k1, cap1, d, rfl, hb1, hk1, hc1, hd⟩
  have hdk : ∀ i kk, Dist E b i kk → d i = (kk : Nat) := fun i kk h => by
    rcases hd i with ⟨j, h1, h2⟩ | ⟨h1, _⟩
    · rw [h2, h1.one h]
    · exact absurd h.1 (h1 kk)
  have hdi : ∀ i kk, d i = ((kk : Nat) : Int) → Dist E b i kk := fun i kk h => by
    rcases hd i with ⟨j, h1, h2⟩ | ⟨_, h2⟩
    · obtain rfl : j = kk := by omega
      exact h1
    · omega
  have HDK : Hid ((∀ i kk, Dist E b i kk → d i = (kk : Nat)) ∧ (∀ i kk, d i = ((kk : Nat) : Int) → Dist E b i kk)) := ⟨hdk, hdi⟩
  have HC1 : Hid (∀ i, i < n → w1.cell? ⟨k1, i, none⟩ = some (.int .i64 (d i))) := hc1
  have HB1 : Hid (Below w.heap.size w w1) := hb1
  have c1 := hc1 a haa
  rw [hdk a k HD0.out] at c1
  have i1 : (0 : Int) ≤ (a : Int) := by omega
  have i2 : (a : Int) < (n : Int) := by omega
  have i3 : ¬ (k : Int) < 0 := by omega
  clear hf hb1 hc1 hd hdk hdi hk1
  go_wp2_with fail
  have hbA : Below w1.heap.size w1 (w1.alloc (.cells #[.int .i64 (a : Int)] 3)) := (Below.refl _ _).alloc (Nat.le_refl _) _
  have HOA : Hid ((w1.alloc (.cells #[.int .i64 (a : Int)] 3)).ownsRow w1.heap.size 3 1 (.slice (some ⟨w1.heap.size, 0, none⟩) 1 1) 1 (ints [a])) := World.ownsRow_lit w1 #[.int .i64 (a : Int)] 1 (Nat.le_refl _) (by unfold maxLen; omega) rfl
  have HBA : Hid (Below w1.heap.size w1 (w1.alloc (.cells #[.int .i64 (a : Int)] 3))) := hbA
  clear hbA c1 i1 i2 i3
  go_loopw [2, 11, 12, 13] (fun va vo _ _ wr => ∃ (x kk : Nat) (pre : List Nat), va = .int .i64 (x : Nat) ∧ x < n ∧ Dist E b x kk ∧ kk < n ∧ pre.length ≤ n - kk ∧ (∀ L, Way E b x kk L → Way E b a k (pre ++ L)) ∧ wr.ownsRow w1.heap.size 3 1 vo (pre.length + 1) (ints (pre ++ [x])) ∧ Below w1.heap.size w1 wr) (fun va _ _ _ wr => numAt wr k1 va)
  case atStart => exact ⟨a, k, [], rfl, haa, HD0.out, hkn, by simp, fun L h => h, HOA.out, HBA.out⟩
  case round =>
    clear HOA HBA
    obtain ⟨x, kk, pre, rfl, hx, hdx, hkk, hpl, hway, hown, hbr⟩ := hrel
    have hcx := cell_keep hbr (HC1.out x hx)
    rw [HDK.out.1 x kk hdx] at hcx
    have HNum : Hid (numAt wr k1 (.int .i64 (x : Nat)) = kk) := show _ = _ by rw [numAt_is hcx]; simp
    have HX : Hid (Dist E b x kk ∧ (∀ L, Way E b x kk L → Way E b a k (pre ++ L))) := ⟨hdx, hway⟩
    have HO : Hid (wr.ownsRow w1.heap.size 3 1 u11 (pre.length + 1) (ints (pre ++ [x]))) := hown
    have HB : Hid (Below w1.heap.size w1 wr) := hbr
    have i1 : (0 : Int) ≤ (x : Int) := by omega
    have i2 : (x : Int) < (n : Int) := by omega
    clear hdx hway hown hbr
    by_cases hk0 : kk = 0
    · subst hk0
      have hxb : x = b := dist_zero HX.out.1
      have HR : Hid (Way E b a k (pre ++ [x])) := HX.out.2 _ (by rw [hxb]; exact .here)
      have HOR : Hid (wr.ownsRow w.heap.size 3 1 u11 (pre ++ [x]).length (ints (pre ++ [x]))) := show World.ownsRow .. by rw [List.length_append]; exact own_mono HO.out HB1.out.size
      have HBR : Hid (Below w.heap.size w wr) := below_step HB1.out HB.out
      clear hxb
      go_wp2_with fail
      go_ret2
      exact ⟨_, _, rfl, HR.out, HOR.out, HBR.out⟩
    · obtain ⟨k', rfl⟩ : ∃ k', kk = k' + 1 := ⟨kk - 1, by omega⟩
      obtain ⟨Z, hZ⟩ : ∃ Z : Int, ((k' + 1 : Nat) : Int) = Z := ⟨_, rfl⟩
      rw [hZ] at hcx
      have k0 : 0 < Z := by omega
      have k9 : Z ≤ 60 := by omega
      have hZ1 : Z - 1 = (k' : Int) := by omega
      have hwk : IntKind.i64.wrap (k' : Int) = (k' : Int) := by rw [IntKind.wrap_i64]; omega
      obtain ⟨Wo, rfl⟩ : ∃ W : World, W = wr := ⟨_, rfl⟩
      have HP : Hid (∀ c', (Next E x c' ∧ Dist E b c' k') → c' < n) := fun c' h => by
        rcases h.1 with q | q
        · exact (HE.out.2.2.1 _ q).2
        · exact (HE.out.2.2.1 _ q).1
      clear hk0 hZ
      go_wp2_with fail
      go_loopw [12, 13] (fun vn vc wr => ∃ (cc : Nat) (y : Int), cc ≤ n ∧ vc = .int .i64 ((cc : Int) - 1) ∧ vn = .int .i64 y ∧ Best (fun c' => Next E x c' ∧ Dist E b c' k') n cc y ∧ Below Wo.heap.size Wo wr) (fun _ vc _ => (intOf vc + 1).toNat)
      case atStart => exact ⟨n, -1, Nat.le_refl _, rfl, rfl, Best.start _ n, Below.refl _ _⟩
      case round =>
        obtain ⟨cc, y, hcc, rfl, rfl, hbest, hbi⟩ := hrel
        have HBe : Hid (Best (fun c' => Next E x c' ∧ Dist E b c' k') n cc y) := hbest
        have HBi : Hid (Below Wo.heap.size Wo wr) := hbi
        clear hbest
        by_cases hc0 : cc = 0
        · subst hc0
          obtain ⟨c', hc'n, hnx, hdc, hleast, hy⟩ : ∃ c' : Nat, c' < n ∧ Next E x c' ∧ Dist E b c' k' ∧ (∀ c'', Next E x c'' → Dist E b c'' k' → c' ≤ c'') ∧ y = (c' : Nat) := by
            rcases HBe.out with ⟨c', _, q2, q3, q4, q5⟩ | ⟨q1, _⟩
            · exact ⟨c', q2, q3.1, q3.2, fun c'' r1 r2 => q4 c'' (Nat.zero_le _) (HP.out c'' ⟨r1, r2⟩) ⟨r1, r2⟩, q5⟩
            · obtain ⟨c', r1, r2⟩ := HX.out.1.next
              exact absurd ⟨r1, r2⟩ (q1 c' (Nat.zero_le _) (HP.out c' ⟨r1, r2⟩))
          subst hy
          have HNext : Hid (Dist E b c' k' ∧ ∀ L, Way E b c' k' L → Way E b a k (pre ++ [x] ++ L)) := ⟨hdc, fun L hL => by rw [List.append_assoc]; exact HX.out.2 _ (.step hnx hdc hleast hL)⟩
          have HOi : Hid (wr.ownsRow w1.heap.size 3 1 u11 (pre.length + 1) (ints (pre ++ [x]))) := own_keep HO.out hbi
          have HBw : Hid (Below w1.heap.size w1 wr) := below_step HB.out hbi
          have hws : w1.heap.size ≤ wr.heap.size := HBw.out.size
          have hcc := cell_keep (below_step HB.out hbi) (HC1.out c' hc'n)
          rw [HDK.out.1 c' k' hdc] at hcc
          obtain ⟨K, hK⟩ : ∃ K, pre.length + 1 = K := ⟨_, rfl⟩
          have HK : Hid (pre.length + 1 = K) := hK
          have hK2 : K ≤ 60 := by omega
          rw [hK] at HOi
          have HCc : Hid (wr.cell? ⟨k1, c', none⟩ = some (.int .i64 ((k' : Nat) : Int))) := hcc
          clear hbi hnx hdc hleast hcc hK
          go_wp2_with (first
            | (at_builtin; refine wpList_append_lies _ rfl (.tmp 55) (.tmp 57) 45 rfl w1.heap.size 3 i0 (.int .i64 0) 1 8 Tryd.underlying45 hi0 hz0 hz1 hz2 rfl (by decide) u11 K (ints (pre ++ [x])) rfl (HOi.out.alloc _) ⟨wr.heap.size, 0, none⟩ 1 1 [.int .i64 (c' : Int)] rfl rfl (cell_one_new _ _ _) ?c2 (by decide) ?c3 ?c4 ?c5 _ rfl ?_))
          case c2 => intro z hz; simp at hz; subst hz; rfl
          case c3 => unfold maxLen; omega
          case c4 => omega
          case c5 => first | omega | (simp; omega)
          intro g1 cap2 w6 hown hgrow hat hlt2
          have hb6 : Below w1.heap.size w1 w6 := (HBw.out.alloc hws _).grown hgrow (by simp; omega) (fun k e => (HOi.out.lt k e).1)
          have HB6 : Hid (Below w1.heap.size w1 w6) := hb6
          have HN6 : Hid (numAt w6 k1 (.int .i64 (c' : Nat)) = k') := show _ = _ by
            have h6 := cell_keep hb6 (HC1.out c' hc'n)
            rw [HDK.out.1 c' k' HNext.out.1] at h6
            rw [numAt_is h6]
            simp
          have HO6 : Hid (w6.ownsRow w1.heap.size 3 1 (.slice (some ⟨g1, 0, none⟩) (K + 1) cap2) ((pre ++ [x]).length + 1) (ints (pre ++ [x] ++ [c']))) := show World.ownsRow .. by
            rw [ints_snoc, List.length_append, List.length_singleton, HK.out]; exact hown
          clear hown hgrow hat hlt2 hb6
          go_wp2_with fail
          go_roundw
          case rel => exact ⟨c', k', pre ++ [x], rfl, hc'n, HNext.out.1, by omega, by simp; omega, HNext.out.2, HO6.out, HB6.out⟩
          case measure => rw [HN6.out, HNum.out]; omega
        · obtain ⟨q, rfl⟩ : ∃ q, cc = q + 1 := ⟨cc - 1, by omega⟩
          have hqc : ((q + 1 : Nat) : Int) - 1 = (q : Int) := by omega
          rw [hqc]
          have hq : q < n := by omega
          have cq := cell_keep (below_step HB.out hbi) (HC1.out q hq)
          have cx := cell_keep hbi hcx
          obtain ⟨D, hD⟩ : ∃ D, d q = D := ⟨_, rfl⟩
          rw [hD] at cq
          have HD : Hid (d q = D) := hD
          have q0 : (0 : Int) ≤ (q : Int) := by omega
          have q1 : (q : Int) < (n : Int) := by omega
          clear hbi hc0 hD hqc
          by_cases hDk : D = (k' : Int)
          · have hdq : Dist E b q k' := HDK.out.2 q k' (by rw [HD.out]; exact hDk)
            subst hDk
            by_cases hnx : Next E x q
            · have hpl : ∀ W, Below wr.heap.size wr W → Calls Tryd.prog 28 #[.slice ad m c, .int .i64 (x : Nat), .int .i64 (q : Nat)] W fun e w' => (∃ j : Nat, e = .returned (.int .i64 (j : Nat))) ∧ Below W.heap.size W w' := fun W hW => place_yes (HE.out.1.below (below_step HB1.out (below_step HB.out (below_step HBi.out hW)))) HE.out.2.1 (by omega) HE.out.2.2.2 hnx
              have HN : Hid (Best (fun c' => Next E x c' ∧ Dist E b c' k') n q (q : Nat)) := HBe.out.yes hq ⟨hnx, hdq⟩
              have k12 : wr.cell? ⟨k1, q, none⟩ = some (.int .i64 (k' : Int)) ∧ wr.cell? ⟨k1, x, none⟩ = some (.int .i64 Z) := ⟨cq, cx⟩
              have HKeep : Hid (∀ W, Below wr.heap.size wr W → (W.cell? ⟨k1, q, none⟩ = some (.int .i64 (k' : Int)) ∧ W.cell? ⟨k1, x, none⟩ = some (.int .i64 Z))) := fun W hW => ⟨cell_keep hW cq, cell_keep hW cx⟩
              clear cq cx hnx hdq
              go_wp2_with fail
              go_region_held3 (fun V => V.cell? ⟨k1, q, none⟩ = some (.int .i64 (k' : Int)) ∧ V.cell? ⟨k1, x, none⟩ = some (.int .i64 Z)) (first | (go_keep; done) | exact k12 | exact HKeep.out _ hbq)
                (first
                  | (go_at_call 28; refine (hpl wr (Below.refl _ _)).mono ?_; rintro e wp ⟨⟨jj, rfl⟩, hbp⟩; have hbq : Below wr.heap.size wr wp := hbp)
                  | (go_at_call 28; refine (hpl wr.drew (Below.refl _ _).drew).mono ?_; rintro e wp ⟨⟨jj, rfl⟩, hbp⟩; have hbq : Below wr.heap.size wr wp := below_step (Below.refl _ _).drew hbp))
              have HQ : Hid (Below Wo.heap.size Wo wp) := below_step HBi.out hbq
              clear hpl hbp hbq k12 HKeep
              have jj0 : (0 : Int) ≤ (jj : Int) := by omega
              go_wp2_with fail
              go_roundw
              case rel => exact ⟨q, _, by omega, by go_num, rfl, HN.out, HQ.out⟩
              case measure => first | (simp [intOf]; done) | (simp [intOf]; omega)
            · have hpl : ∀ W, Below wr.heap.size wr W → Calls Tryd.prog 28 #[.slice ad m c, .int .i64 (x : Nat), .int .i64 (q : Nat)] W fun e w' => e = .returned (.int .i64 (-1)) ∧ Below W.heap.size W w' := fun W hW => place_not (HE.out.1.below (below_step HB1.out (below_step HB.out (below_step HBi.out hW)))) HE.out.2.1 (by omega) HE.out.2.2.2 hnx
              have HN : Hid (Best (fun c' => Next E x c' ∧ Dist E b c' k') n q y) := HBe.out.no fun h => hnx h.1
              have k12 : wr.cell? ⟨k1, q, none⟩ = some (.int .i64 (k' : Int)) ∧ wr.cell? ⟨k1, x, none⟩ = some (.int .i64 Z) := ⟨cq, cx⟩
              have HKeep : Hid (∀ W, Below wr.heap.size wr W → (W.cell? ⟨k1, q, none⟩ = some (.int .i64 (k' : Int)) ∧ W.cell? ⟨k1, x, none⟩ = some (.int .i64 Z))) := fun W hW => ⟨cell_keep hW cq, cell_keep hW cx⟩
              clear cq cx hnx hdq
              go_wp2_with fail
              go_region_held3 (fun V => V.cell? ⟨k1, q, none⟩ = some (.int .i64 (k' : Int)) ∧ V.cell? ⟨k1, x, none⟩ = some (.int .i64 Z)) (first | (go_keep; done) | exact k12 | exact HKeep.out _ hbq)
                (first
                  | (go_at_call 28; refine (hpl wr (Below.refl _ _)).mono ?_; rintro e wp ⟨rfl, hbp⟩; have hbq : Below wr.heap.size wr wp := hbp)
                  | (go_at_call 28; refine (hpl wr.drew (Below.refl _ _).drew).mono ?_; rintro e wp ⟨rfl, hbp⟩; have hbq : Below wr.heap.size wr wp := below_step (Below.refl _ _).drew hbp))
              have HQ : Hid (Below Wo.heap.size Wo wp) := below_step HBi.out hbq
              clear hpl hbp hbq k12 HKeep
              go_wp2_with fail
              go_roundw
              case rel => exact ⟨q, y, by omega, by go_num, rfl, HN.out, HQ.out⟩
              case measure => first | (simp [intOf]; done) | (simp [intOf]; omega)
          · have tD : (D == (k' : Int)) = false := by rw [beq_eq_false_iff_ne]; exact hDk
            have HN : Hid (Best (fun c' => Next E x c' ∧ Dist E b c' k') n q y) := HBe.out.no fun h => hDk (by rw [← HD.out, HDK.out.1 q k' h.2])
            clear hDk
            go_wp2_with fail
            go_quiet (fail)
            go_wp2_with fail
            go_roundw
            case rel => exact ⟨q, y, by omega, by go_num, rfl, HN.out, below_step HBi.out (Br.below_drewN rfl)⟩
            case measure => first | (simp [intOf]; done) | (simp [intOf]; omega)

end Go.Proofs.YtinflbkmemjgbabDoor.Pt
