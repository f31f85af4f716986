/-
  Cut of package tour, where it cuts.
-/
import Derived.Test.YtcebfloeikjjcabGreatTe1
namespace Go.Proofs.YtcebfloeikjjcabGreat
open Go.RowKit Go.Deep Go.Shelf Go.Sort Go.Lib
open Go.RowKit (Below)
set_option linter.unusedVariables false

variable {w w' : World} {L : Pl} {p p' : Nat → Nat} {DW DW' DE DE' : DataW Unit} {E E' : List (Nat × Nat)}

/-- Where the two moves of an edge stand, and what lies around them. -/
structure Stands (n : Nat) (xs : List Int) (a b : Nat) (P M Q : List (Nat × Nat)) (i1 i2 k1 k2 : Nat) : Prop where
  one : ∃ X Y, xs = X ++ code n (a, b) :: Y ∧ code n (a, b) ∉ X ∧ X.length = i1
  two : ∃ X Y, xs = X ++ code n (b, a) :: Y ∧ code n (b, a) ∉ X ∧ X.length = i2
  min_ : min (i1 : Int) (i2 : Int) = (k1 : Int)
  max_ : max (i1 : Int) (i2 : Int) = (k2 : Int)
  lt : k1 + 1 ≤ k2
  le : k2 + 1 ≤ xs.length
  mid : (xs.take k2).drop (k1 + 1) = M.map (code n)
  low : (xs.take k1).drop 0 = P.map (code n)
  high : (xs.take xs.length).drop (k2 + 1) = Q.map (code n)

theorem stands_of {n u v : Nat} {P M Q : List (Nat × Nat)} {xs : List Int} (hx : xs = (P ++ (u, v) :: (M ++ (v, u) :: Q)).map (code n)) (hn : xs.Nodup) : Stands n xs u v P M Q P.length (P.length + 1 + M.length) P.length (P.length + 1 + M.length) := by
  have h1 : xs = P.map (code n) ++ code n (u, v) :: (M.map (code n) ++ code n (v, u) :: Q.map (code n)) := by rw [hx]; simp
  have h2 : xs = (P.map (code n) ++ code n (u, v) :: M.map (code n)) ++ code n (v, u) :: Q.map (code n) := by rw [h1]; simp
  have n1 := hn
  have n2 := hn
  rw [h1, List.nodup_append] at n1
  rw [h2, List.nodup_append] at n2
  have l2 : (P.map (code n) ++ code n (u, v) :: M.map (code n)).length = P.length + 1 + M.length := by simp; omega
  have l3 : xs.length = P.length + 1 + M.length + 1 + Q.length := by rw [h2, List.length_append, l2]; simp; omega
  refine ⟨⟨_, _, h1, fun hm => n1.2.2 _ hm _ (List.mem_cons_self ..) rfl, by simp⟩, ⟨_, _, h2, fun hm => n2.2.2 _ hm _ (List.mem_cons_self ..) rfl, l2⟩, by omega, by omega, by omega, by omega, ?_, ?_, ?_⟩
  · rw [h2, List.take_left' l2, show P.map (code n) ++ code n (u, v) :: M.map (code n) = (P.map (code n) ++ [code n (u, v)]) ++ M.map (code n) by simp, List.drop_left' (by simp)]
  · rw [h1, List.take_left' (by simp), List.drop_zero]
  · rw [List.take_length, h2, show (P.map (code n) ++ code n (u, v) :: M.map (code n)) ++ code n (v, u) :: Q.map (code n) = ((P.map (code n) ++ code n (u, v) :: M.map (code n)) ++ [code n (v, u)]) ++ Q.map (code n) by simp, List.drop_left' (by rw [List.length_append, l2]; rfl)]

theorem Stands.symm {n a b i1 i2 k1 k2 : Nat} {P M Q : List (Nat × Nat)} {xs : List Int} (h : Stands n xs a b P M Q i1 i2 k1 k2) : Stands n xs b a P M Q i2 i1 k1 k2 :=
  ⟨h.two, h.one, by have := h.min_; omega, by have := h.max_; omega, h.lt, h.le, h.mid, h.low, h.high⟩

theorem name_world {K : World → Prop} {W0 W : World} (h : RowKit.Below W0.heap.size W0 W) (hK : ∀ W1, RowKit.Below W0.heap.size W0 W1 → K W1) : K W := hK W h

set_option maxRecDepth 100000 in
set_option maxHeartbeats 8000000 in
theorem fcut_any {A B : List (Nat × Nat)} (a b : Nat) (f : FAt w L (A ++ (min a b, max a b) :: B) p) (ha : a < L.n) (hb : b < L.n) :
    Calls Tryz.prog 39 #[.pointer (some ⟨L.g, 0, none⟩), .int .i64 (a : Int), .int .i64 (b : Int)] w fun e w' => e = .returned .nilIface ∧ Turn L w w' ∧
      ∃ p', More (A ++ B) a b (A ++ (min a b, max a b) :: B) ∧ FAt w' L (A ++ B) p' := by
  obtain ⟨p', mo, g', hnE⟩ := grown_less f.grown
  have hperm : (A ++ (min a b, max a b) :: B).Perm ((min a b, max a b) :: (A ++ B)) := List.perm_middle
  have hin : (min a b, max a b) ∈ A ++ (min a b, max a b) :: B := by simp
  have HGoal : Hid (∀ {W : World}, FAt W L (A ++ B) p' → (∃ p', More (A ++ B) a b (A ++ (min a b, max a b) :: B) ∧ FAt W L (A ++ B) p')) := fun hf => ⟨p', mo, hf⟩
  generalize A ++ (min a b, max a b) :: B = E at *
  generalize A ++ B = E' at *
  have g := f.grown
  have hab := mo.ne
  have hb0 : RowKit.Below w.heap.size w (w.alloc (.cells #[.int .i64 (a : Int), .int .i64 (b : Int)] 3)) := (RowKit.Below.refl _ _).alloc (Nat.le_refl _) _
  obtain ⟨DW, DE, m, hw⟩ := (f.below hb0).mem
  have hh := has_any m rfl w.heap.size [(a : Int), (b : Int)] (fun i x hx => by match i, hx with | 0, hx => cases hx; simp | 1, hx => cases hx; simp) (by simp) 2
  rw [two_in, decide_eq_true (by omega)] at hh
  have hn60 := m.n60
  -- the way, and where the edge stands on it
  have hpa : p a < L.n := g.lt ha
  have hpp : p (p a) = p a := g.rest.least a
  obtain ⟨bw, T, l, hW⟩ := hw (p a) hpa hpp
  obtain ⟨-, hsz, hs, hz⟩ := hW.sz g hn60 hpa hpp
  have hab2 : p b = p a := (mo.joined g'.rest g.rest b).2 (Or.inr rfl)
  obtain ⟨u, v, P, M, Q, huv, hl⟩ := way_split hab ((hW.way.mem a b).2 ⟨Or.inr ⟨hab, (mo.edg a b).2 (Or.inr (Or.inl ⟨rfl, rfl⟩))⟩, rfl⟩) ((hW.way.mem b a).2 ⟨Or.inr ⟨hab.symm, (mo.edg b a).2 (Or.inr (Or.inr ⟨rfl, rfl⟩))⟩, hab2⟩)
  have mo' : More E' u v E := by
    rcases huv with ⟨rfl, rfl⟩ | ⟨rfl, rfl⟩
    · exact mo
    · exact mo.symm
  have hpu : p u = p a := by
    rcases huv with ⟨rfl, rfl⟩ | ⟨rfl, rfl⟩
    · rfl
    · exact hab2
  have hun : u < L.n ∧ v < L.n := by
    rcases huv with ⟨rfl, rfl⟩ | ⟨rfl, rfl⟩
    · exact ⟨ha, hb⟩
    · exact ⟨hb, ha⟩
  have hxs : items T = (P ++ (u, v) :: (M ++ (v, u) :: Q)).map (code L.n) := by rw [hW.items, hl]
  have hcut := Way.cut mo' g'.rest g.rest (n := L.n) (P := P) (M := M) (Q := Q) (by rw [hpu, ← hl]; exact hW.way)
  obtain ⟨i1, i2, k1, k2, S⟩ : ∃ i1 i2 k1 k2, Stands L.n (items T) a b P M Q i1 i2 k1 k2 := by
    have S := stands_of hxs (by rw [hxs, ← hl]; exact hW.way.codes g.among)
    rcases huv with ⟨rfl, rfl⟩ | ⟨rfl, rfl⟩
    · exact ⟨_, _, _, _, S⟩
    · exact ⟨_, _, _, _, S.symm⟩
  have HS : Hid (Stands L.n (items T) a b P M Q i1 i2 k1 k2) := S
  have e1 := S.min_
  have e2 := S.max_
  have hk1 := S.lt
  have hk2 := S.le
  rw [items_len] at hk2
  have hc2 := m.c2
  generalize hWW : (w.alloc (.cells #[.int .i64 (a : Int), .int .i64 (b : Int)] 3)) = W at *
  obtain ⟨O1, hO1⟩ : ∃ O1, O1 = Obj.cells #[.int .i64 (min a b : Nat), .int .i64 (max a b : Nat)] 41 := ⟨_, rfl⟩
  have b1 : RowKit.Below W.heap.size W (W.alloc O1).drew := ((RowKit.Below.refl _ _).alloc (Nat.le_refl _) _).drew
  have b2 : RowKit.Below W.heap.size W ((W.alloc O1).alloc (.cells #[] 73)).drew := (((RowKit.Below.refl _ _).alloc (Nat.le_refl _) _).alloc (by simp) _).drew
  have b3 : RowKit.Below W.heap.size W ((W.alloc (.cells #[] 73)).alloc O1).drew := (((RowKit.Below.refl _ _).alloc (Nat.le_refl _) _).alloc (by simp) _).drew
  have l1 := (m.below b1).edges.look (min a b) (max a b) (by omega) (by omega) true (by simp [hin])
  have l2 := (m.below b2).edges.look (min a b) (max a b) (by omega) (by omega) true (by simp [hin])
  have l3 := (m.below b3).edges.look (min a b) (max a b) (by omega) (by omega) true (by simp [hin])
  rw [hO1] at l1 b1 l2 b2 l3 b3
  have HM : Hid (Mem W L p DW DE E ∧ ∀ r, r < L.n → p r = r → ∃ b T l, WayAt W L E p DW r b T l) := ⟨m, hw⟩
  have HW : Hid (WayAt W L E p DW (p a) bw T l) := hW
  have HC : Hid (Way L.n E' p' (p' v) M ∧ Way L.n E' p' (p' u) (P ++ Q)) := hcut
  clear m hO1 hw hW hcut S hxs hl hsz
  go_enter Tryz.func39, Tryz.ntmps39
  go_wp2_with fail
  clear hWW
  refine hh.mono ?_
  rintro e w1 ⟨rfl, rfl⟩
  clear hh
  go_wp2_with fail
  go_region_held3 (fun W => W.cell? ⟨L.g, 2, none⟩ = some (.map (some L.eb))) (first | (go_keep; done) | exact cell_keep b1 hc2 | exact cell_keep b2 hc2 | exact cell_keep b3 hc2)
    (first
      | (go_at_call 36; refine (edgeOf_any a b (by omega) (by omega)).mono ?_; rintro e w9 ⟨rfl, rfl⟩))
  all_goals
    first
      | refine name_world b1 ?_
      | refine name_world b2 ?_
      | refine name_world b3 ?_
    intro W1 hbW
    clear b1 b2 b3 l1 l2 l3 hc2
    have m1 := HM.out.1.below hbW
    have hlook := ways_look (w := W1.drew) m1.ways (p a) bw (by omega) HW.out.at_
    have c0 := m1.c0
    have c1 := m1.c1
    have hat := m1.at ha
    have i0 : (0 : Int) ≤ (a : Int) := by omega
    have i1' : (a : Int) < (L.n : Int) := by omega
    have hr1 : RowAt W1.drew (some ⟨bw, 0, none⟩) T := (HW.out.row.below hbW).drew
    have m2 : Mem W1.drew L p DW DE E := m1.drew
    have hbd : RowKit.Below w1.heap.size w1 W1.drew := hbW.drew
    clear m1
    go_wp2_with fail
    go_region
    go_wp2_with fail
    generalize W1.drew = W2 at *
    clear hbW hlook c0 c1 hat
    obtain ⟨X1, Y1, hx1, hX1, hl1⟩ := HS.out.one
    obtain ⟨X2, Y2, hx2, hX2, hl2⟩ := HS.out.two
    have hp1 := place_any hr1 (by omega) X1 Y1 _ hx1 hX1
    rw [hl1] at hp1
    refine (step_any m2 a b ha hb).mono ?_
    rw [← code_step hab]
    rintro e w3 ⟨rfl, rfl⟩
    clear hx1 hX1 hl1
    generalize code L.n (a, b) = s1 at hp1 ⊢
    go_wp2_with fail
    refine hp1.mono ?_
    rintro e w4 ⟨rfl, hb4⟩
    clear hp1
    have hr4 := hr1.below hb4
    have m4 := m2.below hb4
    have hp2 := place_any hr4 (by omega) X2 Y2 _ hx2 hX2
    rw [hl2] at hp2
    clear hx2 hX2 hl2
    go_wp2_with fail
    refine (step_any m4 b a hb ha).mono ?_
    rw [← code_step hab.symm]
    rintro e w5 ⟨rfl, rfl⟩
    generalize code L.n (b, a) = s2 at hp2 ⊢
    go_wp2_with fail
    refine hp2.mono ?_
    rintro e w6 ⟨rfl, hb6⟩
    clear hp2
    have hr6 := hr4.below hb6
    have m6 := m4.below hb6
    have hbal := HW.out.bal
    have t6 : Turn L w1 w6 := Turn.of_below (below_step (below_step hbd hb4) hb6)
    clear hr4 m4 hr1 m2 hbd hb4 hb6
    go_wp2_with fail
    refine (piece_any hr6 hbal (by omega) (k1 + 1) k2 (by omega) (by omega)).mono ?_
    rintro e w7 ⟨vM, TM, rfl, hb7, hrM, hBM, hiM⟩
    rw [HS.out.mid] at hiM
    have hvn : p' v < L.n := g'.lt hun.2
    have hu'n : p' u < L.n := g'.lt hun.1
    obtain ⟨nsM, hnsM⟩ := nodes_head g'.rest hvn (g'.rest.least v)
    obtain ⟨nsR, hnsR⟩ := nodes_head g'.rest hu'n (g'.rest.least u)
    have hsM : 0 < sz TM := by
      rw [← items_len, hiM, List.length_map]
      exact List.length_pos_of_mem ((HC.out.1.mem v v).2 ⟨Or.inl ⟨rfl, hun.2⟩, rfl⟩)
    have hsM2 : sz TM ≤ 400 := by
      have hx : (items TM).length ≤ (items T).length := by
        rw [hiM, ← HS.out.mid]
        simp only [List.length_drop, List.length_take]
        omega
      rw [items_len, items_len] at hx
      omega
    obtain ⟨bM, rfl⟩ := row_some hrM hsM
    have hsrt : ((items TM).filter fun z : Int => decide (z < (L.n : Nat))).mergeSort (fun x y => decide (x ≤ y)) = (p' v :: nsM).map Int.ofNat := by
      rw [hiM, HC.out.1.sorted g'.among, hnsM]
    have m7 := m6.below hb7
    have hk := keep_any m7 hrM hsM2 nsM (p' v) hsrt (fun x hx => (mem_nodesOf.1 (by rw [hnsM]; exact hx)).1)
    have HIM : Hid (items TM = M.map (code L.n)) := hiM
    have hr7 := hr6.below hb7
    have t7 : Turn L w1 w7 := t6.trans (Turn.of_below hb7)
    clear hsrt hiM hr6 m6 hb7 t6
    go_wp2_with fail
    refine hk.mono ?_
    rintro e w8 ⟨rfl, t8, m8⟩
    have hr8 := hr7.turn m7 t8
    have hrM8 := hrM.turn m7 t8
    have t8' := t7.trans t8
    clear hk hr7 hrM m7 t7 t8
    go_wp2_with fail
    refine (piece_any hr8 hbal (by omega) 0 k1 (by omega) (by omega)).mono ?_
    rintro e w9 ⟨v1, T1, rfl, hb9, hr9, hB9, hi9⟩
    rw [HS.out.low] at hi9
    have HI9 : Hid (items T1 = P.map (code L.n)) := hi9
    clear hi9
    go_wp2_with fail
    refine (len_any (hr8.below hb9)).mono ?_
    rintro e w10 ⟨rfl, rfl⟩
    go_wp2_with fail
    refine (piece_any (hr8.below hb9) hbal (by omega) (k2 + 1) (sz T) (by omega) (Nat.le_refl _)).mono ?_
    rintro e w11 ⟨v2, T2, rfl, hb11, hr11, hB11, hi11⟩
    rw [← items_len T, HS.out.high] at hi11
    have HI11 : Hid (items T2 = Q.map (code L.n)) := hi11
    clear hi11
    go_wp2_with fail
    have hlen : (items T1 ++ items T2).length ≤ 400 := by
      have hx : (items T1 ++ items T2).length ≤ (items T).length := by
        rw [HI9.out, HI11.out, ← HS.out.low, ← HS.out.high]
        simp only [List.length_append, List.length_drop, List.length_take]
        omega
      rw [items_len T] at hx
      omega
    have hb12 : RowKit.Below w11.heap.size w11 (w11.alloc (.cells #[.pointer v1, .pointer v2] 68)) := (RowKit.Below.refl _ _).alloc (Nat.le_refl _) _
    refine (joined_any w11.heap.size [(v1, T1), (v2, T2)] (fun i x hx => ?_) (fun x hx => ?_) (by simp only [List.flatMap_cons, List.flatMap_nil, List.append_nil]; exact hlen) (by simp) 2).mono ?_
    · match i, hx with
      | 0, hx => cases hx; simp
      | 1, hx => cases hx; simp
    · simp only [List.mem_cons, List.not_mem_nil, or_false] at hx
      rcases hx with rfl | rfl
      · exact ⟨(hr9.below hb11).below hb12, hB9⟩
      · exact ⟨hr11.below hb12, hB11⟩
    rintro e w13 ⟨vR, TR, rfl, hb13, hrR, hBR, hiR⟩
    simp only [List.flatMap_cons, List.flatMap_nil, List.append_nil] at hiR
    have hsR2 : sz TR ≤ 400 := by rw [← items_len, hiR]; exact hlen
    rw [HI9.out, HI11.out, ← List.map_append] at hiR
    have hsR : 0 < sz TR := by
      rw [← items_len, hiR, List.length_map]
      exact List.length_pos_of_mem ((HC.out.2.mem u u).2 ⟨Or.inl ⟨rfl, hun.1⟩, rfl⟩)
    obtain ⟨bR, rfl⟩ := row_some hrR hsR
    have hsrt : ((items TR).filter fun z : Int => decide (z < (L.n : Nat))).mergeSort (fun x y => decide (x ≤ y)) = (p' u :: nsR).map Int.ofNat := by
      rw [hiR, HC.out.2.sorted g'.among, hnsR]
    have hb8 : RowKit.Below w8.heap.size w8 w13 := below_step (below_step (below_step hb9 hb11) hb12) hb13
    have m13 := m8.below hb8
    have hk := keep_any m13 hrR hsR2 nsR (p' u) hsrt (fun x hx => (mem_nodesOf.1 (by rw [hnsR]; exact hx)).1)
    have HIR : Hid (items TR = (P ++ Q).map (code L.n)) := hiR
    have hrM13 := hrM8.below hb8
    have t13 : Turn L w1 w13 := t8'.trans (Turn.of_below hb8)
    clear hsrt hiR hr8 hr9 hr11 hrM8 m8 hb9 hb11 hb12 hb13 hb8 t8' hlen HI9 HI11
    go_wp2_with fail
    refine hk.mono ?_
    rintro e w14 ⟨rfl, t14, m14⟩
    have hrM14 := hrM13.turn m13 t14
    have hrR14 := hrR.turn m13 t14
    have t14' := t13.trans t14
    have m15 := m14.congr (p' := p') (fun i hi => by
      have hM : ∀ x, x ∈ p' v :: nsM ↔ x < L.n ∧ p' x = p' v := fun x => by rw [← hnsM]; exact mem_nodesOf
      have hR : ∀ x, x ∈ p' u :: nsR ↔ x < L.n ∧ p' x = p' u := fun x => by rw [← hnsR]; exact mem_nodesOf
      by_cases c1 : i ∈ p' u :: nsR
      · rw [if_pos c1]; exact ((hR i).1 c1).2.symm
      · rw [if_neg c1]
        by_cases c2 : i ∈ p' v :: nsM
        · rw [if_pos c2]; exact ((hM i).1 c2).2.symm
        · rw [if_neg c2]
          exact mo'.rest g'.rest g.rest (fun e => c1 ((hR i).2 ⟨hi, e⟩)) (fun e => c2 ((hM i).2 ⟨hi, e⟩)))
    clear hk m14 m13 hrM13 hrR t13 t14
    have hbx : RowKit.Below w14.heap.size w14 (w14.alloc (.cells #[.int .i64 (min a b : Nat), .int .i64 (max a b : Nat)] 41)).drew := ((RowKit.Below.refl _ _).alloc (Nat.le_refl _) _).drew
    have m16 := m15.below hbx
    obtain ⟨w17, DE', hrun17, hes, ht17⟩ := m16.edges.drop (min a b) (max a b) (by omega) (by omega) hnE hperm 0
    have c2 := m15.c2
    have bl : ∀ i, i < (w14.alloc (.cells #[.int .i64 (min a b : Nat), .int .i64 (max a b : Nat)] 41)).drew.heap.size → i ≠ L.eb → w17.heap[i]? = (w14.alloc (.cells #[.int .i64 (min a b : Nat), .int .i64 (max a b : Nat)] 41)).drew.heap[i]? := fun i hi hn => ht17.grown.block i hi (fun e => hn (by cases e; rfl))
    have m17 : Mem w17 L p' ((DW.put (.int .i64 ((p' v : Nat) : Int)) (.lit (.int .i64 (bM : Int)))).put (.int .i64 ((p' u : Nat) : Int)) (.lit (.int .i64 (bR : Int)))) DE' E' :=
      ⟨m16.st.of_block (bl _ m16.st.lt (fun e => m16.g_off (Or.inr (Or.inr e)))), m16.home.of_block (bl _ m16.home.lt m16.he), own_block m16.ways (bl _ (map_lt m16.wm) m16.we), m16.keys, hes, m16.n1, m16.n60, m16.we⟩
    have tx : Turn L w14 w17 := (Turn.of_below hbx).trans (Turn.grown ht17.grown (Or.inr (Or.inr rfl)))
    have t17 : Turn L w1 w17 := t14'.trans tx
    have hfin : FAt w17 L E' p' := by
      have hap := mo'.apart g'.rest
      have kv : WideAt.IsKeyLit (.int .i64 ((p' v : Nat) : Int)) := Tryz.lawInt.key (key_int (p' v) (by omega))
      have ku : WideAt.IsKeyLit (.int .i64 ((p' u : Nat) : Int)) := Tryz.lawInt.key (key_int (p' u) (by omega))
      have hmp := HM.out.1.ways.isMap
      refine cut_end (u := u) (v := v) (b1 := bM) (b2 := bR) (T1 := TM) (T2 := TR) (l1 := M) (l2 := P ++ Q) HM.out.2 HM.out.1 t17 mo' g g' m17 (fun r hr1 hr2 z => ?_)
        ⟨fun z => ?_, hrM14.turn m15 tx, hBM, HIM.out, HC.out.1⟩ ⟨fun z => ?_, hrR14.turn m15 tx, hBR, HIR.out, HC.out.2⟩
      · rw [Maps.atKey_put_other (by simp only [ne_eq, Lit.int.injEq, true_and]; omega), Maps.atKey_put_other (by simp only [ne_eq, Lit.int.injEq, true_and]; omega)]
      · rw [Maps.atKey_put_other (by simp only [ne_eq, Lit.int.injEq, true_and]; omega)]
        exact Maps.atKey_put_same hmp kv _ _
      · exact Maps.atKey_put_same (hmp.put _ _) ku _ _
    have HF : Hid (FAt w17 L E' p') := hfin
    have c2x := m17.c2
    have HT : Hid (Turn L w w17) := (Turn.of_below hb0).trans t17
    clear hfin m17 bl m16 m15 hes ht17 t17 tx t14' hrM14 hrR14
    go_wp2_with fail
    go_region_held3 (fun W => W.cell? ⟨L.g, 2, none⟩ = some (.map (some L.eb))) (first | (go_keep; done) | exact cell_keep hbx c2 | exact c2x)
      (first
        | (go_at_call 36; refine (edgeOf_any a b (by omega) (by omega)).mono ?_; rintro e w9 ⟨rfl, rfl⟩))
    go_wp2_with fail
    go_ret
    exact ⟨rfl, HT.out, HGoal.out HF.out⟩

end Go.Proofs.YtcebfloeikjjcabGreat
