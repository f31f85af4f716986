/-
  New of package tour.
-/
import Derived.Test.YtcebfloeikjjcabGreatTe2
import Derived.Carry
namespace Go.Proofs.YtcebfloeikjjcabGreat
open Go.RowKit Go.Deep Go.Shelf Go.Sort Go.Lib
open Go.RowKit (Below)
set_option linter.unusedVariables false

variable {w w' : World} {L : Pl}

set_option maxHeartbeats 400000 in
theorem fnew_no {w : World} (n : Int) (hn : n < 1 ∨ 60 < n) :
    Calls Tryz.prog 11 #[.int .i64 n] w fun e w' => e = .returned (.tuple #[.pointer none, .iface 50 (.int .i64 1)]) ∧ w' = w := by
  rcases hn with hn | hn
  · go_enter Tryz.func11, Tryz.ntmps11
    go_wp2_with fail
    go_ret2
    exact ⟨rfl, rfl⟩
  · have h1 : ¬ n < 1 := by omega
    go_enter Tryz.func11, Tryz.ntmps11
    go_wp2_with fail
    go_ret2
    exact ⟨rfl, rfl⟩

theorem way_one {n r : Nat} (hr : r < n) : Way n [] (fun i => i) r [(r, r)] := by
  refine ⟨by simp, ⟨r, rfl, rfl⟩, fun x y => ?_⟩
  simp only [List.mem_singleton, Prod.mk.injEq, Mv, Edg, List.not_mem_nil, or_self, and_false, or_false]
  constructor
  · rintro ⟨rfl, rfl⟩; exact ⟨⟨rfl, hr⟩, rfl⟩
  · rintro ⟨⟨rfl, _⟩, rfl⟩; exact ⟨rfl, rfl⟩

theorem grown_new (n : Nat) : Grown n [] fun i => i :=
  ⟨fun e he => absurd he (by simp), trivial, ⟨Low.start [], fun e he => absurd he (by simp)⟩, fun e he => absurd he (by simp), List.Pairwise.nil⟩

/-- Where the loop of New stands. -/
structure Begun (w0 w : World) (L : Pl) (k : Nat) : Prop where
  below : RowKit.Below w0.heap.size w0 w
  mem : ∃ DW DE, Mem w L (fun i => if i < k then i else 0) DW DE [] ∧ ∀ r, r < k → ∃ (b : Nat) (T : BT Int), (∀ z, DW.atKey (.int .i64 (r : Int)) z = .lit (.int .i64 (b : Int))) ∧ RowAt w (some ⟨b, 0, none⟩) T ∧ Bal T ∧ items T = [(r : Int)]

theorem Begun.done {w0 : World} {n : Nat} (h : Begun w0 w L n) (hn : L.n = n) : FAt w L [] fun i => i := by
  subst hn
  obtain ⟨DW, DE, m, hr⟩ := h.mem
  refine ⟨grown_new _, DW, DE, m.congr (fun i hi => if_pos hi), fun r h1 _ => ?_⟩
  obtain ⟨b, T, h2, h3, h4, h5⟩ := hr r h1
  exact ⟨b, T, [(r, r)], h2, h3, h4, by rw [h5]; simp [code_self], way_one h1⟩

theorem begun_new {w : World} {n : Nat} (h1 : 1 ≤ n) (h2 : n ≤ 60) :
    Begun w ((((w.alloc (.cells (madeCells #[.int .i64 0] n) 3)).alloc (.map #[] 0)).alloc (.map #[] 0)).alloc (.cells #[.slice (some ⟨w.heap.size, 0, none⟩) n n, .map (some (w.heap.size + 1)), .map (some (w.heap.size + 1 + 1))] 66)) ⟨w.heap.size + 1 + 1 + 1, w.heap.size, w.heap.size + 1, w.heap.size + 1 + 1, n⟩ 0 := by
  have b1 : RowKit.Below w.heap.size w (w.alloc (.cells (madeCells #[.int .i64 0] n) 3)) := (RowKit.Below.refl _ _).alloc (Nat.le_refl _) _
  generalize hA : (w.alloc (.cells (madeCells #[.int .i64 0] n) 3)) = A at b1 ⊢
  have sA : A.heap.size = w.heap.size + 1 := by rw [← hA]; simp
  have rA : A.rowIs w.heap.size 3 n (fun _ => .int .i64 0) := by rw [← hA]; exact World.rowIs_made w (.int .i64 0) n 3
  have oB : (A.alloc (.map #[] 0)).ownsMap Tryz.prog 3 ptrElem (w.heap.size + 1) 0 (.map []) := by rw [← sA]; exact World.ownsMap_made A _ _ _
  have sB : (A.alloc (.map #[] 0)).heap.size = w.heap.size + 1 + 1 := by simp [sA]
  generalize hB : A.alloc (.map #[] 0) = B at *
  have oC : (B.alloc (.map #[] 0)).ownsMap Tryz.prog 41 unitElem (w.heap.size + 1 + 1) 0 (.map [] : DataW Unit) := by rw [← sB]; exact World.ownsMap_made B _ _ _
  have sC : (B.alloc (.map #[] 0)).heap.size = w.heap.size + 1 + 1 + 1 := by simp [sB]
  have oC1 := oB.alloc (.map #[] 0)
  have rB : B.rowIs w.heap.size 3 n (fun _ => .int .i64 0) := by rw [← hB]; exact rA.alloc _
  have rC := rB.alloc (.map #[] 0)
  have bB : RowKit.Below w.heap.size w B := by rw [← hB]; exact b1.alloc b1.size _
  have bC := bB.alloc bB.size (.map #[] 0)
  generalize hC : B.alloc (.map #[] 0) = C at *
  have st := World.rowIs_alloc C #[.slice (some ⟨w.heap.size, 0, none⟩) n n, .map (some (w.heap.size + 1)), .map (some (w.heap.size + 1 + 1))] 66 (cells3 ⟨w.heap.size + 1 + 1 + 1, w.heap.size, w.heap.size + 1, w.heap.size + 1 + 1, n⟩) (fun i hi => by
    match i, hi with
    | 0, _ => rfl
    | 1, _ => rfl
    | 2, _ => rfl)
  rw [sC] at st
  refine ⟨bC.alloc bC.size _, .map [], .map [], ⟨st, (rC.alloc _).congr (fun i _ => by simp), (oC1.alloc _).mono (Nat.zero_le _), fun kl hk => by simp [Maps.has] at hk, ⟨⟨0, oC.alloc _⟩, fun v kl _ => by simp [Maps.has], rfl⟩, h1, h2, by simp⟩, fun r hr => absurd hr (Nat.not_lt_zero _)⟩

set_option maxHeartbeats 1000000 in
theorem fnew_any {w : World} (n : Nat) (h1 : 1 ≤ n) (h2 : n ≤ 60) :
    Calls Tryz.prog 11 #[.int .i64 (n : Nat)] w fun e w' => ∃ L : Pl, e = .returned (.tuple #[.pointer (some ⟨L.g, 0, none⟩), .nilIface]) ∧ RowKit.Below w.heap.size w w' ∧ FAt w' L [] (fun i => i) ∧ L.n = n ∧ ∀ k, Foot L k → w.heap.size ≤ k := by
  have hmk := run_make_row' (P := Tryz.prog) 33 3 (.int .i64 0) 8 Tryz.underlying33 Tryz.infoInt rfl .i64 .i64 n (by omega) (by omega)
  have hmm := @run_makeMap Tryz.prog
  have hbg := begun_new (w := w) h1 h2
  obtain ⟨L, hL⟩ : ∃ L : Pl, L = ⟨w.heap.size + 1 + 1 + 1, w.heap.size, w.heap.size + 1, w.heap.size + 1 + 1, n⟩ := ⟨_, rfl⟩
  rw [← hL] at hbg
  have hg : w.heap.size + 1 + 1 + 1 = L.g := by rw [hL]
  have hLn : L.n = n := by rw [hL]
  have HFt : Hid (∀ k, Foot L k → w.heap.size ≤ k) := fun k hk => by
    rw [hL] at hk
    rcases hk with rfl | rfl | rfl
    · exact Nat.le_refl _
    · show w.heap.size ≤ w.heap.size + 1; omega
    · show w.heap.size ≤ w.heap.size + 1 + 1; omega
  have HB : Hid (Begun w _ L 0) := hbg
  have HG : Hid (w.heap.size + 1 + 1 + 1 = L.g) := hg
  clear hL hbg hg
  go_enter Tryz.func11, Tryz.ntmps11
  go_wp2_with fail
  rw [HG.out]
  clear hmk hmm
  go_loopw [5, 20] (fun _ i wr => ∃ k : Nat, k ≤ n ∧ i = .int .i64 (k : Nat) ∧ Begun w wr L k) (fun _ i _ => n - (intOf i).toNat)
  case atStart => exact ⟨0, Nat.zero_le _, rfl, HB.out⟩
  case round =>
    obtain ⟨k, hk, rfl, hM⟩ := hrel
    by_cases hlt : k < n
    · have i0 : (0 : Int) ≤ (k : Int) := by omega
      have i1 : (k : Int) < (n : Int) := by omega
      obtain ⟨DW, DE, m, hr⟩ := hM.mem
      have hbel := hM.below
      have HR : Hid (∀ r, r < k → ∃ (b : Nat) (T : BT Int), (∀ z, DW.atKey (.int .i64 (r : Int)) z = .lit (.int .i64 (b : Int))) ∧ RowAt wr (some ⟨b, 0, none⟩) T ∧ Bal T ∧ items T = [(r : Int)]) := hr
      clear hM hr
      go_wp2_with fail
      refine (only_any (k : Int)).mono ?_
      rintro e w1 ⟨v, T, rfl, hb1, hr1, hB1, hi1⟩
      have hs : sz T = 1 := by rw [← items_len, hi1]; rfl
      obtain ⟨b, rfl⟩ := row_some hr1 (by omega)
      have m1 := m.below hb1
      have hkp := keep_any m1 hr1 (by omega) [] k (by rw [hi1]; simp [hLn, hlt]) (fun x hx => by simp at hx; omega)
      go_wp2_with fail
      refine hkp.mono ?_
      rintro e w2 ⟨rfl, t2, m2⟩
      have hnew : Begun w w2 L (k + 1) := by
        have hsz := hbel.size
        refine ⟨Turn.below (hbel.trans (hb1.mono hsz)) (by have := hb1.size; omega) HFt.out t2, _, _, m2.congr (fun i _ => ?_), fun r hr => ?_⟩
        · simp only [List.mem_singleton]
          by_cases e : i = k
          · simp [e]
          · by_cases e2 : i < k
            · simp [e, e2, Nat.lt_succ_of_lt e2]
            · have : ¬ i < k + 1 := by omega
              simp [e, e2, this]
        · by_cases e : r = k
          · subst e
            exact ⟨b, T, fun z => Maps.atKey_put_same m1.ways.isMap (Tryz.lawInt.key (key_int r (by omega))) _ _, hr1.turn m1 t2, hB1, hi1⟩
          · obtain ⟨b0, T0, q1, q2, q3, q4⟩ := HR.out r (by omega)
            exact ⟨b0, T0, fun z => (Maps.atKey_put_other (by simp only [ne_eq, Lit.int.injEq, true_and]; omega) _ _).trans (q1 z), (q2.below hb1).turn m1 t2, q3, q4⟩
      have HN : Hid (Begun w w2 L (k + 1)) := hnew
      clear hnew m m1 m2 t2 hr1 hkp hi1
      go_wp2_with fail
      go_roundw
      case rel => exact ⟨k + 1, by omega, by go_num, HN.out⟩
      case measure => simp [intOf]; omega
    · obtain rfl : k = n := by omega
      go_wp2_with fail
      go_ret2
      exact ⟨L, rfl, hM.below, hM.done hLn, hLn, HFt.out⟩

end Go.Proofs.YtcebfloeikjjcabGreat
