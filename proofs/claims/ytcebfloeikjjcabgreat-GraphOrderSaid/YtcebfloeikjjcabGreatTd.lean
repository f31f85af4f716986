/-
  Link of package tour, where it links.
-/
import Derived.Test.YtcebfloeikjjcabGreatTc
namespace Go.Proofs.YtcebfloeikjjcabGreat
open Go.RowKit Go.Deep Go.Shelf Go.Sort Go.Lib
open Go.RowKit (Below)
set_option linter.unusedVariables false

variable {w w' : World} {L : Pl} {p p' : Nat → Nat} {DW DW' DE DE' : DataW Unit} {E E' : List (Nat × Nat)}

set_option maxRecDepth 100000 in
set_option maxHeartbeats 4000000 in
theorem flink_any (f : FAt w L E p) (a b : Nat) (ha : a < L.n) (hb : b < L.n) (hp : p a ≠ p b) :
    Calls Tryz.prog 13 #[.pointer (some ⟨L.g, 0, none⟩), .int .i64 (a : Int), .int .i64 (b : Int)] w fun e w' => e = .returned .nilIface ∧ Turn L w w' ∧
      ∃ A B p', E = A ++ B ∧ More E a b (A ++ (min a b, max a b) :: B) ∧ FAt w' L (A ++ (min a b, max a b) :: B) p' := by
  obtain ⟨A, B, p', hE, mo, g', hnE⟩ := grown_more f.grown ha hb hp
  obtain ⟨E', hE'⟩ : ∃ E', E' = A ++ (min a b, max a b) :: B := ⟨_, rfl⟩
  rw [← hE'] at mo g'
  have hperm : ((min a b, max a b) :: E).Perm E' := by rw [hE', hE]; exact List.perm_middle.symm
  have HGoal : Hid (∀ {W : World}, Turn L w W → FAt W L E' p' → (∃ A B p', E = A ++ B ∧ More E a b (A ++ (min a b, max a b) :: B) ∧ FAt W L (A ++ (min a b, max a b) :: B) p')) := fun _ hf => ⟨A, B, p', hE, hE' ▸ mo, hE' ▸ hf⟩
  have g := f.grown
  have hEl : E.length < 1000000 := by
    obtain ⟨DW, DE, m, -⟩ := f.mem
    have h1 := (forest_parts g.among g.rest).2.1 g.forest
    have := m.n60
    omega
  clear hE hE'
  have hb0 : RowKit.Below w.heap.size w (w.alloc (.cells #[.int .i64 (a : Int), .int .i64 (b : Int)] 3)) := (RowKit.Below.refl _ _).alloc (Nat.le_refl _) _
  have hdr : RowKit.Below w.heap.size w (w.alloc (.cells #[.int .i64 (a : Int), .int .i64 (b : Int)] 3)).drew := hb0.drew
  have f0 := f.below hdr
  obtain ⟨DW, DE, m0, -⟩ := (f.below hb0).mem
  have hh := has_any m0 rfl w.heap.size [(a : Int), (b : Int)] (fun i x hx => by match i, hx with | 0, hx => cases hx; simp | 1, hx => cases hx; simp) (by simp) 2
  rw [two_in, decide_eq_true (by omega)] at hh
  have hn60 := m0.n60
  have c0 := m0.c0
  have h1 := m0.at ha
  have h2 := m0.at hb
  have i0 : (0 : Int) ≤ (a : Int) := by omega
  have i1 : (a : Int) < (L.n : Int) := by omega
  have i2 : (0 : Int) ≤ (b : Int) := by omega
  have i3 : (b : Int) < (L.n : Int) := by omega
  have hq : (((p a : Nat) : Int) == ((p b : Nat) : Int)) = false := by rw [beq_eq_false_iff_ne]; omega
  have HP : Hid (p a ≠ p b) := hp
  have hab : a ≠ b := fun e => hp (by rw [e])
  clear m0 hp
  go_enter Tryz.func13, Tryz.ntmps13
  go_wp2_with fail
  refine hh.mono ?_
  rintro e w1 ⟨rfl, rfl⟩
  clear hh
  go_wp2_with fail
  go_region
  go_wp2_with fail
  clear hb0 c0 h1 h2 hq
  generalize (w.alloc (.cells #[.int .i64 (a : Int), .int .i64 (b : Int)] 3)).drew = W0 at *
  refine (from_any f0 a ha).mono ?_
  rintro e w1 ⟨v1, T1, l1, rfl, hb1, hr1, hB1, hi1, hw1, hg1, hs1⟩
  have f1 := f0.below hb1
  have HI1 : Hid (items T1 = _) := hi1
  clear hi1
  go_wp2_with fail
  obtain ⟨_, _, m1, -⟩ := f1.mem
  refine (step_any m1 a b ha hb).mono ?_
  rw [← code_step hab]
  rintro e w2 ⟨rfl, rfl⟩
  clear m1
  generalize hc1 : code L.n (a, b) = s1
  go_wp2_with fail
  refine (only_any s1).mono ?_
  rintro e w2 ⟨v2, T2, rfl, hb2, hr2, hB2, hi2⟩
  have f2 := f1.below hb2
  have HI2 : Hid (items T2 = _) := hi2
  clear hi2
  go_wp2_with fail
  refine (from_any f2 b hb).mono ?_
  rintro e w3 ⟨v3, T3, l3, rfl, hb3, hr3, hB3, hi3, hw3, hg3, hs3⟩
  have f3 := f2.below hb3
  have HI3 : Hid (items T3 = _) := hi3
  clear hi3
  go_wp2_with fail
  obtain ⟨_, _, m1, -⟩ := f3.mem
  refine (step_any m1 b a hb ha).mono ?_
  rw [← code_step (Ne.symm hab)]
  rintro e w4 ⟨rfl, rfl⟩
  clear m1
  generalize hc2 : code L.n (b, a) = s2
  go_wp2_with fail
  refine (only_any s2).mono ?_
  rintro e w4 ⟨v4, T4, rfl, hb4, hr4, hB4, hi4⟩
  have f4 := f3.below hb4
  have HI4 : Hid (items T4 = _) := hi4
  clear hi4
  go_wp2_with fail
  have hall : items T1 ++ (items T2 ++ (items T3 ++ items T4)) = (l1 ++ (a, b) :: (l3 ++ [(b, a)])).map (code L.n) := by
    rw [HI1.out, HI2.out, HI3.out, HI4.out, ← hc1, ← hc2]; simp
  have hlen : (items T1 ++ (items T2 ++ (items T3 ++ items T4))).length ≤ 400 := by
    have e2 : (items T2).length = 1 := by rw [HI2.out]; rfl
    have e4 : (items T4).length = 1 := by rw [HI4.out]; rfl
    simp only [List.length_append, items_len T1, items_len T3, e2, e4]; omega
  have hb5 : RowKit.Below w4.heap.size w4 (w4.alloc (.cells #[.pointer v1, .pointer v2, .pointer v3, .pointer v4] 68)) := (RowKit.Below.refl _ _).alloc (Nat.le_refl _) _
  have HA : Hid (items T1 ++ (items T2 ++ (items T3 ++ items T4)) = (l1 ++ (a, b) :: (l3 ++ [(b, a)])).map (code L.n)) := hall
  clear hall
  refine (joined_any w4.heap.size [(v1, T1), (v2, T2), (v3, T3), (v4, T4)] (fun i x hx => ?_) (fun x hx => ?_) (by simp only [List.flatMap_cons, List.flatMap_nil, List.append_nil]; exact hlen) (by simp) 4).mono ?_
  · match i, hx with
    | 0, hx => cases hx; simp
    | 1, hx => cases hx; simp
    | 2, hx => cases hx; simp
    | 3, hx => cases hx; simp
  · simp only [List.mem_cons, List.not_mem_nil, or_false] at hx
    rcases hx with rfl | rfl | rfl | rfl
    · exact ⟨(((hr1.below hb2).below hb3).below hb4).below hb5, hB1⟩
    · exact ⟨((hr2.below hb3).below hb4).below hb5, hB2⟩
    · exact ⟨(hr3.below hb4).below hb5, hB3⟩
    · exact ⟨hr4.below hb5, hB4⟩
  rintro e w6 ⟨v, T, rfl, hb6, hr6, hB6, hi6⟩
  simp only [List.flatMap_cons, List.flatMap_nil, List.append_nil] at hi6
  have hT : items T = (l1 ++ (a, b) :: (l3 ++ [(b, a)])).map (code L.n) := hi6.trans HA.out
  have hTs : sz T ≤ 400 := by rw [← items_len, hi6]; exact hlen
  have hTz : 0 < sz T := by rw [← items_len, hT]; simp; omega
  obtain ⟨vb, rfl⟩ := row_some hr6 hTz
  have hway : Way L.n E' p' (p' a) (l1 ++ (a, b) :: (l3 ++ [(b, a)])) := Way.link mo g.rest g'.rest hw1 hg1 hw3 hg3
  have hb06 : RowKit.Below w.heap.size w w6 := below_step (below_step (below_step (below_step (below_step (below_step hdr hb1) hb2) hb3) hb4) hb5) hb6
  have f6 := f.below hb06
  obtain ⟨DW, DE, m6, hw6⟩ := f6.mem
  clear hi6 HI1 HI2 HI3 HI4 HA hlen hr1 hr2 hr3 hr4 hw1 hg1 hw3 hg3 f0 f1 f2 f3 f4 hc1 hc2
  obtain ⟨mx, hmx⟩ : ∃ mx, mx = max (p a) (p b) := ⟨_, rfl⟩
  have hmxn : mx < 1000000 := by have := g.lt ha; have := g.lt hb; omega
  obtain ⟨w7, hrun7, hown7, ht7⟩ := ways_drop (w := w6.drew) m6.ways mx hmxn 0
  have t7 : Turn L w6 w7 := (Turn.refl _).drew.trans (Turn.grown ht7.grown (Or.inr (Or.inl rfl)))
  have bl7 : ∀ i, i < w6.heap.size → i ≠ L.wb → w7.heap[i]? = w6.heap[i]? := fun i hi hn => ht7.grown.block i hi (fun e => hn (by cases e; rfl))
  have m7 : Mem w7 L p (DW.del (.int .i64 (mx : Int))) DE E := by
    refine ⟨m6.st.of_block (bl7 _ m6.st.lt (fun e => m6.g_off (Or.inr (Or.inl e)))), m6.home.of_block (bl7 _ m6.home.lt m6.hw), hown7, fun kl hk => ?_, m6.edges.of_block (bl7 _ (map_lt m6.em) (fun e => m6.we e.symm)), m6.n1, m6.n60, m6.we⟩
    by_cases e : kl = .int .i64 (mx : Int)
    · rw [e, Maps.has_del_same] at hk; cases hk
    · rw [Maps.has_del_other e] at hk; exact m6.keys kl hk
  have hpa : p' a < L.n := g'.lt ha
  obtain ⟨ns, hns⟩ := nodes_head g'.rest hpa (g'.rest.least a)
  have hsrt : ((items T).filter fun z : Int => decide (z < (L.n : Nat))).mergeSort (fun x y => decide (x ≤ y)) = (p' a :: ns).map Int.ofNat := by
    rw [hT, hway.sorted g'.among, hns]
  have hkeep := keep_any m7 (hr6.turn m6 t7) hTs ns (p' a) hsrt (fun x hx => (mem_nodesOf.1 (by rw [hns]; exact hx)).1)
  have hmem : ∀ x, x ∈ p' a :: ns ↔ x < L.n ∧ p' x = p' a := fun x => by rw [← hns]; exact mem_nodesOf
  have hq : ∀ i, i < L.n → (if i ∈ p' a :: ns then p' a else p i) = p' i := fun i hi => by
    by_cases e : i ∈ p' a :: ns
    · rw [if_pos e]; exact ((hmem i).1 e).2.symm
    · rw [if_neg e]
      have h1 : p' i ≠ p' a := fun e1 => e ((hmem i).2 ⟨hi, e1⟩)
      refine (mo.rest g.rest g'.rest (fun e1 => h1 ?_) (fun e1 => h1 ?_)).symm
      · exact (mo.joined g.rest g'.rest i).2 (Or.inl e1)
      · exact (mo.joined g.rest g'.rest i).2 (Or.inr e1)
  have c0 := m6.c0
  have c1 := m6.c1
  have h1 := m6.at ha
  have h2 := m6.at hb
  have HQ : Hid (∀ i, i < L.n → (if i ∈ p' a :: ns then p' a else p i) = p' i) := hq
  have HM7 : Hid (Mem w7 L p (DW.del (.int .i64 (mx : Int))) DE E) := m7
  have HM6 : Hid (Mem w6 L p DW DE E) := m6
  have HW6 : Hid (∀ r, r < L.n → p r = r → ∃ b T l, WayAt w6 L E p DW r b T l) := hw6
  have HR6 : Hid (RowAt w6 (some ⟨vb, 0, none⟩) T ∧ Bal T ∧ items T = (l1 ++ (a, b) :: (l3 ++ [(b, a)])).map (code L.n) ∧ Way L.n E' p' (p' a) (l1 ++ (a, b) :: (l3 ++ [(b, a)]))) := ⟨hr6, hB6, hT, hway⟩
  have HMX : Hid (mx = max (p a) (p b)) := hmx
  have HPE : Hid (p' a = min (p a) (p b)) := mo.least g.rest g'.rest
  have HKN : Hid (keyOf Tryz.prog 3 (.int .i64 ((p' a : Nat) : Int)) = some (.int .i64 ((p' a : Nat) : Int))) := key_int (p' a) (by omega)
  have hpl := g.lt ha
  have hpl2 := g.lt hb
  have hpab := HP.out
  clear hq m7 m6 hw6 hr6 hB6 hT hway hsrt hns hmem hown7 ht7 bl7 hb1 hb2 hb3 hb4 hb5 hb6 hB1 hB2 hB3 hB4 hdr
  rw [show ((mx : Nat) : Int) = max ((p a : Nat) : Int) ((p b : Nat) : Int) by omega] at hrun7
  clear hmx
  go_wp2_with fail
  go_region
  go_wp2_with fail
  refine hkeep.mono ?_
  rintro e w8 ⟨rfl, t8, m8⟩
  have m8' := m8.congr HQ.out
  clear hkeep m8 hrun7 c0 c1 h1 h2
  have hbx : RowKit.Below w8.heap.size w8 (w8.alloc (.cells #[.int .i64 (min a b : Nat), .int .i64 (max a b : Nat)] 41)).drew := ((RowKit.Below.refl _ _).alloc (Nat.le_refl _) _).drew
  have m9 := m8'.below hbx
  obtain ⟨w10, DE', hrun10, hes, ht10⟩ := m9.edges.put hEl (min a b) (max a b) (by omega) (by omega) hnE hperm
  have c2 := m8'.c2
  have bl : ∀ i, i < (w8.alloc (.cells #[.int .i64 (min a b : Nat), .int .i64 (max a b : Nat)] 41)).drew.heap.size → i ≠ L.eb → w10.heap[i]? = (w8.alloc (.cells #[.int .i64 (min a b : Nat), .int .i64 (max a b : Nat)] 41)).drew.heap[i]? := fun i hi hn => ht10.grown.block i hi (fun e => hn (by cases e; rfl))
  have m10 : Mem w10 L p' ((DW.del (.int .i64 ((_ : Nat) : Int))).put (.int .i64 ((p' a : Nat) : Int)) (.lit (.int .i64 (vb : Int)))) DE' E' :=
    ⟨m9.st.of_block (bl _ m9.st.lt (fun e => m9.g_off (Or.inr (Or.inr e)))), m9.home.of_block (bl _ m9.home.lt m9.he), own_block m9.ways (bl _ (map_lt m9.wm) m9.we), m9.keys, hes, m9.n1, m9.n60, m9.we⟩
  have t10 : Turn L w6 w10 := t7.trans (t8.trans ((Turn.of_below hbx).trans (Turn.grown ht10.grown (Or.inr (Or.inr rfl)))))
  have hfin : FAt w10 L E' p' := by
    refine link_end (a := a) (b := b) (b' := vb) (T' := T) (l' := l1 ++ (a, b) :: (l3 ++ [(b, a)])) HW6.out HM6.out t10 mo g g' m10 (fun r hr1 hr2 z => ?_) ⟨fun z => ?_, HR6.out.1.turn HM6.out t10, HR6.out.2.1, HR6.out.2.2.1, HR6.out.2.2.2⟩
    · have hpe := HPE.out
      have hme := HMX.out
      rw [Maps.atKey_put_other (by simp only [ne_eq, Lit.int.injEq, true_and]; omega), Maps.atKey_del_other (by simp only [ne_eq, Lit.int.injEq, true_and]; omega)]
    · exact Maps.atKey_put_same (HM7.out.ways.isMap) (Tryz.lawInt.key HKN.out) _ _
  have HF : Hid (FAt w10 L E' p') := hfin
  have c2x := m10.c2
  have HT : Hid (Turn L w w10) := (Turn.of_below hb06).trans t10
  clear hfin m10 bl m9 m8' hes ht10 t10 t8
  go_wp2_with fail
  go_region_held3 (fun W => W.cell? ⟨L.g, 2, none⟩ = some (.map (some L.eb))) (first | (go_keep; done) | exact cell_keep hbx c2 | exact c2x)
    (first
      | (go_at_call 36; refine (edgeOf_any a b (by omega) (by omega)).mono ?_; rintro e w9 ⟨rfl, rfl⟩))
  go_wp2_with fail
  go_ret
  exact ⟨rfl, HT.out, HGoal.out HT.out HF.out⟩

end Go.Proofs.YtcebfloeikjjcabGreat
