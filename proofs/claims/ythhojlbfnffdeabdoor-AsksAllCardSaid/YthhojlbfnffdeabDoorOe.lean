/-
  The statements' own answer: which event is wrong first, and how.
-/
import Derived.Test.YthhojlbfnffdeabDoorOd
namespace Go.Proofs.YthhojlbfnffdeabDoor.As
open Go.RowKit Go.Deep
open Go.RowKit (Below)
set_option linter.unusedVariables false

variable {w w' : World} {f : Nat → Int × Int × Int}

theorem isOf_nat {e : Nat × Nat} {u v : Nat} : IsOf e (u : Nat) (v : Nat) ↔ e = (min u v, max u v) := by
  unfold IsOf
  constructor
  · rintro ⟨h1, h2⟩
    exact Prod.ext (by show e.1 = min u v; omega) (by show e.2 = max u v; omega)
  · rintro rfl
    exact ⟨by show ((min u v : Nat) : Int) = _; omega, by show ((max u v : Nat) : Int) = _; omega⟩

theorem mid_at {E : List (Nat × Nat)} {j : Nat} (h : j < E.length) : ∃ A B, E = A ++ E.getD j (0, 0) :: B ∧ A.length = j := by
  refine ⟨E.take j, E.drop (j + 1), ?_, by simp; omega⟩
  rw [List.getD_eq_getElem?_getD, List.getElem?_eq_getElem h]
  simp

theorem of_nat (u v : Nat) {w : World} :
    Calls Tryd.prog 17 #[.int .i64 (u : Nat), .int .i64 (v : Nat)] w fun e w' => e = .returned (ev ((min u v : Nat) : Int) ((max u v : Nat) : Int)) ∧ w' = w.alloc (.cells #[.int .i64 ((min u v : Nat) : Int), .int .i64 ((max u v : Nat) : Int)] 50) := by
  have h := of_edge (u : Nat) (v : Nat) (w := w)
  rw [show min ((u : Nat) : Int) ((v : Nat) : Int) = ((min u v : Nat) : Int) by omega, show max ((u : Nat) : Int) ((v : Nat) : Int) = ((max u v : Nat) : Int) by omega] at h
  exact h

theorem eOf_nat {j u v : Nat} (hx : (f j).2.1 = (u : Nat)) (hy : (f j).2.2 = (v : Nat)) : eOf f j = (min u v, max u v) := by
  unfold eOf
  rw [hx, hy]
  exact Prod.ext (by show Int.toNat (min _ _) = min u v; omega) (by show Int.toNat (max _ _) = max u v; omega)

set_option maxRecDepth 100000 in
set_option maxHeartbeats 8000000 in
theorem evfault_in {a : Option Addr} {m c n : Nat} (h : EvAt w a m f) (h1 : 1 ≤ n) (h60 : n ≤ 60) (hm : m ≤ 120) :
    Calls Tryd.prog 4 #[.int .i64 (n : Nat), .slice a m c] w fun e w' => ∃ (k : Nat) (x : Int), e = .returned (.tuple #[.int .i64 (k : Int), .int .i64 x]) ∧ ((k < m ∧ (∀ j, j < k → May n f j) ∧ Bad n f k x) ∨ ((∀ j, j < m → May n f j) ∧ k = 0 ∧ x = 0)) ∧ Below w.heap.size w w' := by
  have HH : Hid (EvAt w a m f) := h
  have hnf := fault_any (n : Nat) w
  rw [if_neg (by omega)] at hnf
  obtain ⟨z0, hi0, hz0, hz1, hz2⟩ := info_parts Tryd.infoEdge
  have e1 : ¬ ((120 : Int) < (m : Int)) := by omega
  have e2 : ¬ (120 < m) := by omega
  clear h
  go_enter Tryd.func4, Tryd.ntmps4
  go_wp2_with fail
  refine hnf.mono ?_
  rintro e w1 ⟨rfl, rfl⟩
  clear hnf
  go_wp2_with fail
  go_loopw [7, 8, 9, 10, 11, 12] (fun v i _ _ _ _ wr => ∃ j : Nat, j ≤ m ∧ i = .int .i64 (j : Nat) ∧ Below w1.heap.size w1 wr ∧ (∀ k, k < j → May n f k) ∧ wr.ownsRow w1.heap.size 50 2 v (here f j).length (twos (here f j))) (fun _ i _ _ _ _ _ => m - (intOf i).toNat)
  case atStart => exact ⟨0, Nat.zero_le _, rfl, Below.refl _ _, fun k hk => absurd hk (Nat.not_lt_zero _), World.ownsRow_nil ..⟩
  case round =>
    obtain ⟨j, hj, rfl, hb, hall, hown⟩ := hrel
    by_cases hlt : j < m
    · obtain ⟨b, o, rfl, c1, c2, c3⟩ := HH.out.below hb j hlt
      obtain ⟨av, cv, rfl, hE, hcv, hcm⟩ := own_edges hown rfl
      have hlen := here_len f j
      obtain ⟨F, hF⟩ : ∃ F, here f j = F := ⟨_, rfl⟩
      rw [hF] at hown hE hcv hlen
      obtain ⟨L, hL⟩ : ∃ L, F.length = L := ⟨_, rfl⟩
      rw [hL] at hown hcv hlen
      rw [hF, hL]
      obtain ⟨q, hq⟩ : ∃ q, (f j).1 = q := ⟨_, rfl⟩
      obtain ⟨x, hx⟩ : ∃ x, (f j).2.1 = x := ⟨_, rfl⟩
      obtain ⟨y, hy⟩ : ∃ y, (f j).2.2 = y := ⟨_, rfl⟩
      rw [hq] at c1
      rw [hx] at c2
      rw [hy] at c3
      have HQ : Hid ((f j).1 = q) := hq
      have HX : Hid ((f j).2.1 = x) := hx
      have HY : Hid ((f j).2.2 = y) := hy
      have HF : Hid (here f j = F) := hF
      have HL : Hid (F.length = L) := hL
      have HAll : Hid (∀ k, k < j → May n f k) := hall
      have HB : Hid (Below w1.heap.size w1 wr) := hb
      have HE : Hid (EdgesAt wr av F) := hE
      have HO : Hid (wr.ownsRow w1.heap.size 50 2 (.slice av L cv) L (twos F)) := hown
      have i0 : (0 : Int) ≤ (j : Int) := by omega
      have i1 : (j : Int) < (m : Int) := by omega
      clear hq hx hy hF hL hall hb hE hown
      by_cases hq1 : q < 1
      · have HNS : Hid (¬ Sane n f j) := fun h => by have := h.1.1; rw [HQ.out] at this; omega
        obtain ⟨qa, hqa⟩ : ∃ q : Bool, q = true ↔ (0 ≤ x ∧ x < (n : Int)) := ⟨decide (0 ≤ x ∧ x < (n : Int)), by simp⟩
        obtain ⟨qb, hqb⟩ : ∃ q : Bool, q = true ↔ (0 ≤ y ∧ y < (n : Int)) := ⟨decide (0 ≤ y ∧ y < (n : Int)), by simp⟩
        go_wp2_with fail
        refine (node_any (n : Nat) x _ qa hqa).mono ?_
        rintro e w2 ⟨rfl, rfl⟩
        have hbA : Below wr.heap.size wr (wr.alloc (.cells #[.int .i64 q, .int .i64 x, .int .i64 y] 45)) := (Below.refl _ _).alloc (Nat.le_refl _) _
        have HBA : Hid (Below w1.heap.size w1 (wr.alloc (.cells #[.int .i64 q, .int .i64 x, .int .i64 y] 45))) := HB.out.trans (hbA.mono HB.out.size)
        have HEA : Hid (EdgesAt (wr.alloc (.cells #[.int .i64 q, .int .i64 x, .int .i64 y] 45)) av F) := HE.out.below hbA
        have HOA : Hid ((wr.alloc (.cells #[.int .i64 q, .int .i64 x, .int .i64 y] 45)).ownsRow w1.heap.size 50 2 (.slice av L cv) L (twos F)) := own_keep HO.out hbA
        have s0 : (wr.alloc (.cells #[.int .i64 q, .int .i64 x, .int .i64 y] 45)).cell? ⟨wr.heap.size, 0, none⟩ = some (.int .i64 q) := by simp
        have s1 : (wr.alloc (.cells #[.int .i64 q, .int .i64 x, .int .i64 y] 45)).cell? ⟨wr.heap.size, 1, none⟩ = some (.int .i64 x) := by simp
        have s2 : (wr.alloc (.cells #[.int .i64 q, .int .i64 x, .int .i64 y] 45)).cell? ⟨wr.heap.size, 2, none⟩ = some (.int .i64 y) := by simp
        generalize (wr.alloc (.cells #[.int .i64 q, .int .i64 x, .int .i64 y] 45)) = wa at *
        generalize wr.heap.size = gs at *
        clear c1 c2 c3 hbA
        go_wp2_with fail
        refine (node_any (n : Nat) y _ qb hqb).mono ?_
        rintro e w3 ⟨rfl, rfl⟩
        go_wp2_with fail
        go_ret2
        exact ⟨j, 1, rfl, Or.inl ⟨hlt, HAll.out, Or.inl ⟨HNS.out, rfl⟩⟩, HBA.out⟩
      by_cases hq3 : 3 < q
      · have HNS : Hid (¬ Sane n f j) := fun h => by have := h.1.2; rw [HQ.out] at this; omega
        obtain ⟨qa, hqa⟩ : ∃ q : Bool, q = true ↔ (0 ≤ x ∧ x < (n : Int)) := ⟨decide (0 ≤ x ∧ x < (n : Int)), by simp⟩
        obtain ⟨qb, hqb⟩ : ∃ q : Bool, q = true ↔ (0 ≤ y ∧ y < (n : Int)) := ⟨decide (0 ≤ y ∧ y < (n : Int)), by simp⟩
        go_wp2_with fail
        refine (node_any (n : Nat) x _ qa hqa).mono ?_
        rintro e w2 ⟨rfl, rfl⟩
        have hbA : Below wr.heap.size wr (wr.alloc (.cells #[.int .i64 q, .int .i64 x, .int .i64 y] 45)) := (Below.refl _ _).alloc (Nat.le_refl _) _
        have HBA : Hid (Below w1.heap.size w1 (wr.alloc (.cells #[.int .i64 q, .int .i64 x, .int .i64 y] 45))) := HB.out.trans (hbA.mono HB.out.size)
        have HEA : Hid (EdgesAt (wr.alloc (.cells #[.int .i64 q, .int .i64 x, .int .i64 y] 45)) av F) := HE.out.below hbA
        have HOA : Hid ((wr.alloc (.cells #[.int .i64 q, .int .i64 x, .int .i64 y] 45)).ownsRow w1.heap.size 50 2 (.slice av L cv) L (twos F)) := own_keep HO.out hbA
        have s0 : (wr.alloc (.cells #[.int .i64 q, .int .i64 x, .int .i64 y] 45)).cell? ⟨wr.heap.size, 0, none⟩ = some (.int .i64 q) := by simp
        have s1 : (wr.alloc (.cells #[.int .i64 q, .int .i64 x, .int .i64 y] 45)).cell? ⟨wr.heap.size, 1, none⟩ = some (.int .i64 x) := by simp
        have s2 : (wr.alloc (.cells #[.int .i64 q, .int .i64 x, .int .i64 y] 45)).cell? ⟨wr.heap.size, 2, none⟩ = some (.int .i64 y) := by simp
        generalize (wr.alloc (.cells #[.int .i64 q, .int .i64 x, .int .i64 y] 45)) = wa at *
        generalize wr.heap.size = gs at *
        clear c1 c2 c3 hbA
        go_wp2_with fail
        refine (node_any (n : Nat) y _ qb hqb).mono ?_
        rintro e w3 ⟨rfl, rfl⟩
        go_wp2_with fail
        go_ret2
        exact ⟨j, 1, rfl, Or.inl ⟨hlt, HAll.out, Or.inl ⟨HNS.out, rfl⟩⟩, HBA.out⟩
      by_cases hxa : 0 ≤ x ∧ x < (n : Int)
      rotate_left
      · have HNS : Hid (¬ Sane n f j) := fun h => by have := h.2.1; rw [HX.out] at this; exact hxa this
        have HXA : Hid (¬ (0 ≤ x ∧ x < (n : Int))) := hxa
        clear hxa
        obtain ⟨qb, hqb⟩ : ∃ q : Bool, q = true ↔ (0 ≤ y ∧ y < (n : Int)) := ⟨decide (0 ≤ y ∧ y < (n : Int)), by simp⟩
        go_wp2_with fail
        refine (node_any (n : Nat) x _ false ⟨fun h => (by cases h), fun h => absurd h HXA.out⟩).mono ?_
        rintro e w2 ⟨rfl, rfl⟩
        have hbA : Below wr.heap.size wr (wr.alloc (.cells #[.int .i64 q, .int .i64 x, .int .i64 y] 45)) := (Below.refl _ _).alloc (Nat.le_refl _) _
        have HBA : Hid (Below w1.heap.size w1 (wr.alloc (.cells #[.int .i64 q, .int .i64 x, .int .i64 y] 45))) := HB.out.trans (hbA.mono HB.out.size)
        have HEA : Hid (EdgesAt (wr.alloc (.cells #[.int .i64 q, .int .i64 x, .int .i64 y] 45)) av F) := HE.out.below hbA
        have HOA : Hid ((wr.alloc (.cells #[.int .i64 q, .int .i64 x, .int .i64 y] 45)).ownsRow w1.heap.size 50 2 (.slice av L cv) L (twos F)) := own_keep HO.out hbA
        have s0 : (wr.alloc (.cells #[.int .i64 q, .int .i64 x, .int .i64 y] 45)).cell? ⟨wr.heap.size, 0, none⟩ = some (.int .i64 q) := by simp
        have s1 : (wr.alloc (.cells #[.int .i64 q, .int .i64 x, .int .i64 y] 45)).cell? ⟨wr.heap.size, 1, none⟩ = some (.int .i64 x) := by simp
        have s2 : (wr.alloc (.cells #[.int .i64 q, .int .i64 x, .int .i64 y] 45)).cell? ⟨wr.heap.size, 2, none⟩ = some (.int .i64 y) := by simp
        generalize (wr.alloc (.cells #[.int .i64 q, .int .i64 x, .int .i64 y] 45)) = wa at *
        generalize wr.heap.size = gs at *
        clear c1 c2 c3 hbA
        go_wp2_with fail
        refine (node_any (n : Nat) y _ qb hqb).mono ?_
        rintro e w3 ⟨rfl, rfl⟩
        go_wp2_with fail
        go_ret2
        exact ⟨j, 1, rfl, Or.inl ⟨hlt, HAll.out, Or.inl ⟨HNS.out, rfl⟩⟩, HBA.out⟩
      by_cases hyb : 0 ≤ y ∧ y < (n : Int)
      rotate_left
      · have HNS : Hid (¬ Sane n f j) := fun h => by have := h.2.2; rw [HY.out] at this; exact hyb this
        have HXA : Hid (0 ≤ x ∧ x < (n : Int)) := hxa
        have HYB : Hid (¬ (0 ≤ y ∧ y < (n : Int))) := hyb
        clear hxa hyb
        go_wp2_with fail
        refine (node_any (n : Nat) x _ true ⟨fun _ => HXA.out, fun _ => rfl⟩).mono ?_
        rintro e w2 ⟨rfl, rfl⟩
        have hbA : Below wr.heap.size wr (wr.alloc (.cells #[.int .i64 q, .int .i64 x, .int .i64 y] 45)) := (Below.refl _ _).alloc (Nat.le_refl _) _
        have HBA : Hid (Below w1.heap.size w1 (wr.alloc (.cells #[.int .i64 q, .int .i64 x, .int .i64 y] 45))) := HB.out.trans (hbA.mono HB.out.size)
        have HEA : Hid (EdgesAt (wr.alloc (.cells #[.int .i64 q, .int .i64 x, .int .i64 y] 45)) av F) := HE.out.below hbA
        have HOA : Hid ((wr.alloc (.cells #[.int .i64 q, .int .i64 x, .int .i64 y] 45)).ownsRow w1.heap.size 50 2 (.slice av L cv) L (twos F)) := own_keep HO.out hbA
        have s0 : (wr.alloc (.cells #[.int .i64 q, .int .i64 x, .int .i64 y] 45)).cell? ⟨wr.heap.size, 0, none⟩ = some (.int .i64 q) := by simp
        have s1 : (wr.alloc (.cells #[.int .i64 q, .int .i64 x, .int .i64 y] 45)).cell? ⟨wr.heap.size, 1, none⟩ = some (.int .i64 x) := by simp
        have s2 : (wr.alloc (.cells #[.int .i64 q, .int .i64 x, .int .i64 y] 45)).cell? ⟨wr.heap.size, 2, none⟩ = some (.int .i64 y) := by simp
        generalize (wr.alloc (.cells #[.int .i64 q, .int .i64 x, .int .i64 y] 45)) = wa at *
        generalize wr.heap.size = gs at *
        clear c1 c2 c3 hbA
        go_wp2_with fail
        refine (node_any (n : Nat) y _ false ⟨fun h => (by cases h), fun h => absurd h HYB.out⟩).mono ?_
        rintro e w3 ⟨rfl, rfl⟩
        go_wp2_with fail
        go_ret2
        exact ⟨j, 1, rfl, Or.inl ⟨hlt, HAll.out, Or.inl ⟨HNS.out, rfl⟩⟩, HBA.out⟩
      obtain ⟨u, rfl⟩ := Int.eq_ofNat_of_zero_le hxa.1
      obtain ⟨v, rfl⟩ := Int.eq_ofNat_of_zero_le hyb.1
      have hun : u < n := by omega
      have hvn : v < n := by omega
      have HSane : Hid (Sane n f j) := ⟨by rw [HQ.out]; omega, by rw [HX.out]; exact hxa, by rw [HY.out]; exact hyb⟩
      have HEO : Hid (eOf f j = (min u v, max u v)) := eOf_nat HX.out HY.out
      clear hxa hyb
      obtain rfl | rfl | rfl : q = 1 ∨ q = 2 ∨ q = 3 := by omega
      · clear hq1 hq3
        by_cases huv : u = v
        · have t1 : ((u : Int) == (v : Int)) = true := by simp; omega
          have t2 : (u == v) = true := by simp; omega
          have HEQ : Hid ((f j).2.1 = (f j).2.2) := show _ = _ by rw [HX.out, HY.out]; omega
          clear huv
          go_wp2_with fail
          refine (node_any (n : Nat) (u : Nat) _ true ⟨fun _ => ⟨by omega, by omega⟩, fun _ => rfl⟩).mono ?_
          rintro e w2 ⟨rfl, rfl⟩
          have hbA : Below wr.heap.size wr (wr.alloc (.cells #[.int .i64 1, .int .i64 (u : Nat), .int .i64 (v : Nat)] 45)) := (Below.refl _ _).alloc (Nat.le_refl _) _
          have HBA : Hid (Below w1.heap.size w1 (wr.alloc (.cells #[.int .i64 1, .int .i64 (u : Nat), .int .i64 (v : Nat)] 45))) := HB.out.trans (hbA.mono HB.out.size)
          have HEA : Hid (EdgesAt (wr.alloc (.cells #[.int .i64 1, .int .i64 (u : Nat), .int .i64 (v : Nat)] 45)) av F) := HE.out.below hbA
          have HOA : Hid ((wr.alloc (.cells #[.int .i64 1, .int .i64 (u : Nat), .int .i64 (v : Nat)] 45)).ownsRow w1.heap.size 50 2 (.slice av L cv) L (twos F)) := own_keep HO.out hbA
          have s0 : (wr.alloc (.cells #[.int .i64 1, .int .i64 (u : Nat), .int .i64 (v : Nat)] 45)).cell? ⟨wr.heap.size, 0, none⟩ = some (.int .i64 1) := by simp
          have s1 : (wr.alloc (.cells #[.int .i64 1, .int .i64 (u : Nat), .int .i64 (v : Nat)] 45)).cell? ⟨wr.heap.size, 1, none⟩ = some (.int .i64 (u : Nat)) := by simp
          have s2 : (wr.alloc (.cells #[.int .i64 1, .int .i64 (u : Nat), .int .i64 (v : Nat)] 45)).cell? ⟨wr.heap.size, 2, none⟩ = some (.int .i64 (v : Nat)) := by simp
          generalize (wr.alloc (.cells #[.int .i64 1, .int .i64 (u : Nat), .int .i64 (v : Nat)] 45)) = wa at *
          generalize wr.heap.size = gs at *
          clear c1 c2 c3 hbA
          go_wp2_with fail
          refine (node_any (n : Nat) (v : Nat) _ true ⟨fun _ => ⟨by omega, by omega⟩, fun _ => rfl⟩).mono ?_
          rintro e w3 ⟨rfl, rfl⟩
          go_wp2_with fail
          go_ret2
          exact ⟨j, 2, rfl, Or.inl ⟨hlt, HAll.out, Or.inr (Or.inl ⟨HSane.out, by rw [HQ.out]; decide, HEQ.out, rfl⟩)⟩, HBA.out⟩
        have t1 : ((u : Int) == (v : Int)) = false := by rw [beq_eq_false_iff_ne]; omega
        have t2 : (u == v) = false := by rw [beq_eq_false_iff_ne]; omega
        have HNE : Hid ((f j).2.1 ≠ (f j).2.2) := fun h => by rw [HX.out, HY.out] at h; omega
        clear huv
        go_wp2_with fail
        refine (node_any (n : Nat) (u : Nat) _ true ⟨fun _ => ⟨by omega, by omega⟩, fun _ => rfl⟩).mono ?_
        rintro e w2 ⟨rfl, rfl⟩
        have hbA : Below wr.heap.size wr (wr.alloc (.cells #[.int .i64 1, .int .i64 (u : Nat), .int .i64 (v : Nat)] 45)) := (Below.refl _ _).alloc (Nat.le_refl _) _
        have HBA : Hid (Below w1.heap.size w1 (wr.alloc (.cells #[.int .i64 1, .int .i64 (u : Nat), .int .i64 (v : Nat)] 45))) := HB.out.trans (hbA.mono HB.out.size)
        have HEA : Hid (EdgesAt (wr.alloc (.cells #[.int .i64 1, .int .i64 (u : Nat), .int .i64 (v : Nat)] 45)) av F) := HE.out.below hbA
        have HOA : Hid ((wr.alloc (.cells #[.int .i64 1, .int .i64 (u : Nat), .int .i64 (v : Nat)] 45)).ownsRow w1.heap.size 50 2 (.slice av L cv) L (twos F)) := own_keep HO.out hbA
        have s0 : (wr.alloc (.cells #[.int .i64 1, .int .i64 (u : Nat), .int .i64 (v : Nat)] 45)).cell? ⟨wr.heap.size, 0, none⟩ = some (.int .i64 1) := by simp
        have s1 : (wr.alloc (.cells #[.int .i64 1, .int .i64 (u : Nat), .int .i64 (v : Nat)] 45)).cell? ⟨wr.heap.size, 1, none⟩ = some (.int .i64 (u : Nat)) := by simp
        have s2 : (wr.alloc (.cells #[.int .i64 1, .int .i64 (u : Nat), .int .i64 (v : Nat)] 45)).cell? ⟨wr.heap.size, 2, none⟩ = some (.int .i64 (v : Nat)) := by simp
        generalize (wr.alloc (.cells #[.int .i64 1, .int .i64 (u : Nat), .int .i64 (v : Nat)] 45)) = wa at *
        generalize wr.heap.size = gs at *
        clear c1 c2 c3 hbA
        go_wp2_with fail
        refine (node_any (n : Nat) (v : Nat) _ true ⟨fun _ => ⟨by omega, by omega⟩, fun _ => rfl⟩).mono ?_
        rintro e w3 ⟨rfl, rfl⟩
        have hpl := place_ref (c := cv) HEA.out HL.out (by omega) (u : Nat) (v : Nat)
        go_wp2_with fail
        refine hpl.mono ?_
        rintro e w4 ⟨r, rfl, hb4, hk⟩
        have HB4 : Hid (Below w1.heap.size w1 w4) := HBA.out.trans (hb4.mono HBA.out.size)
        have HE4 : Hid (EdgesAt w4 av F) := HEA.out.below hb4
        have HO4 : Hid (w4.ownsRow w1.heap.size 50 2 (.slice av L cv) L (twos F)) := own_keep HOA.out hb4
        have s01 := cell_keep hb4 s0
        have s11 := cell_keep hb4 s1
        have s21 := cell_keep hb4 s2
        clear hpl s0 s1 s2
        rcases hk with ⟨jj, hjj, rfl, hof⟩ | ⟨rfl, hno⟩
        · have hget : F.getD jj (0, 0) = (min u v, max u v) := isOf_nat.1 hof
          have hin : (min u v, max u v) ∈ F := by
            rw [← hget, List.getD_eq_getElem?_getD, List.getElem?_eq_getElem (by rw [HL.out]; exact hjj)]
            exact List.getElem_mem _
          have j0 : (0 : Int) ≤ (jj : Int) := by omega
          have j1 : ¬ ((jj : Int) < 0) := by omega
          have HIN : Hid ((min u v, max u v) ∈ F) := hin
          have HGET : Hid (F.getD jj (0, 0) = (min u v, max u v)) := hget
          clear hof hget hin hb4
          go_wp2_with fail
          go_ret2
          exact ⟨j, 6, rfl, Or.inl ⟨hlt, HAll.out, Or.inr (Or.inr (Or.inl ⟨HSane.out, HQ.out, HNE.out, by rw [HEO.out, HF.out]; exact HIN.out, rfl⟩))⟩, HB4.out⟩
        · have HOUT : Hid ((min u v, max u v) ∉ F) := fun q => hno _ q (isOf_nat.2 rfl)
          clear hno hb4
          have hof := of_nat u v (w := w4)
          have h4s : w1.heap.size ≤ w4.heap.size := HB4.out.size
          go_wp2_with fail
          refine hof.mono ?_
          rintro e w5 ⟨rfl, rfl⟩
          have hb5 : Below w4.heap.size w4 (w4.alloc (.cells #[.int .i64 ((min u v : Nat) : Int), .int .i64 ((max u v : Nat) : Int)] 50)) := (Below.refl _ _).alloc (Nat.le_refl _) _
          have HB5 : Hid (Below w1.heap.size w1 (w4.alloc (.cells #[.int .i64 ((min u v : Nat) : Int), .int .i64 ((max u v : Nat) : Int)] 50))) := HB4.out.trans (hb5.mono h4s)
          have HO5 : Hid ((w4.alloc (.cells #[.int .i64 ((min u v : Nat) : Int), .int .i64 ((max u v : Nat) : Int)] 50)).ownsRow w1.heap.size 50 2 (.slice av L cv) L (twos F)) := own_keep HO4.out hb5
          have h5s : w1.heap.size ≤ (w4.alloc (.cells #[.int .i64 ((min u v : Nat) : Int), .int .i64 ((max u v : Nat) : Int)] 50)).heap.size := HB5.out.size
          generalize (w4.alloc (.cells #[.int .i64 ((min u v : Nat) : Int), .int .i64 ((max u v : Nat) : Int)] 50)) = w5 at *
          generalize hmn : min u v = mn at *
          generalize hmx : max u v = mx at *
          clear hof hb5 s01 s11 s21 hmn hmx
          dsimp only [ev]
          go_wp2_with (first
            | (at_builtin; refine wpList_append_lies _ rfl (.tmp 92) (.tmp 98) 43 rfl w1.heap.size 50 z0 (.agg #[.int .i64 0, .int .i64 0]) 2 16 Tryd.underlying43 hi0 hz0 hz1 hz2 rfl (by decide) (.slice av L cv) L (twos F) rfl (HO5.out.alloc _) ⟨w5.heap.size, 0, none⟩ 1 1 (two (mn, mx)) rfl rfl (two_new _ _ _) ?c2 (by decide) ?c3 ?c4 ?c5 _ rfl ?_))
          case c2 => intro z hz; exact two_one [(mn, mx)] z (by simpa [twos] using hz)
          case c3 => unfold maxLen; omega
          case c4 => omega
          case c5 => simp; omega
          intro g1 cap1 w6 hown hgrow hat hlt2
          have HB6 : Hid (Below w1.heap.size w1 w6) := (HB5.out.alloc h5s _).grown hgrow (by simp; omega) (fun k e => (HO5.out.lt k e).1)
          have HO6 : Hid (w6.ownsRow w1.heap.size 50 2 (.slice (some ⟨g1, 0, none⟩) (L + 1) cap1) (F ++ [(mn, mx)]).length (twos (F ++ [(mn, mx)]))) := show World.ownsRow .. by
            rw [twos_snoc, List.length_append, HL.out]; exact hown
          have HN6 : Hid (here f (j + 1) = F ++ [(mn, mx)]) := show _ = _ by rw [here_add HQ.out, HF.out, HEO.out]
          have HM6 : Hid (∀ k, k < j + 1 → May n f k) := fun k hk => by
            rcases Nat.lt_or_ge k j with h | h
            · exact HAll.out k h
            · obtain rfl : k = j := by omega
              exact may_add HSane.out HQ.out HNE.out (by rw [HEO.out, HF.out]; exact HOUT.out)
          clear hown hgrow hat hlt2
          go_wp2_with fail
          go_roundw
          case rel => exact ⟨j + 1, by omega, by go_num, HB6.out, HM6.out, by rw [HN6.out]; exact HO6.out⟩
          case measure => simp [intOf]; omega
      · clear hq1 hq3
        by_cases huv : u = v
        · have t1 : ((u : Int) == (v : Int)) = true := by simp; omega
          have t2 : (u == v) = true := by simp; omega
          have HEQ : Hid ((f j).2.1 = (f j).2.2) := show _ = _ by rw [HX.out, HY.out]; omega
          clear huv
          go_wp2_with fail
          refine (node_any (n : Nat) (u : Nat) _ true ⟨fun _ => ⟨by omega, by omega⟩, fun _ => rfl⟩).mono ?_
          rintro e w2 ⟨rfl, rfl⟩
          have hbA : Below wr.heap.size wr (wr.alloc (.cells #[.int .i64 2, .int .i64 (u : Nat), .int .i64 (v : Nat)] 45)) := (Below.refl _ _).alloc (Nat.le_refl _) _
          have HBA : Hid (Below w1.heap.size w1 (wr.alloc (.cells #[.int .i64 2, .int .i64 (u : Nat), .int .i64 (v : Nat)] 45))) := HB.out.trans (hbA.mono HB.out.size)
          have HEA : Hid (EdgesAt (wr.alloc (.cells #[.int .i64 2, .int .i64 (u : Nat), .int .i64 (v : Nat)] 45)) av F) := HE.out.below hbA
          have HOA : Hid ((wr.alloc (.cells #[.int .i64 2, .int .i64 (u : Nat), .int .i64 (v : Nat)] 45)).ownsRow w1.heap.size 50 2 (.slice av L cv) L (twos F)) := own_keep HO.out hbA
          have s0 : (wr.alloc (.cells #[.int .i64 2, .int .i64 (u : Nat), .int .i64 (v : Nat)] 45)).cell? ⟨wr.heap.size, 0, none⟩ = some (.int .i64 2) := by simp
          have s1 : (wr.alloc (.cells #[.int .i64 2, .int .i64 (u : Nat), .int .i64 (v : Nat)] 45)).cell? ⟨wr.heap.size, 1, none⟩ = some (.int .i64 (u : Nat)) := by simp
          have s2 : (wr.alloc (.cells #[.int .i64 2, .int .i64 (u : Nat), .int .i64 (v : Nat)] 45)).cell? ⟨wr.heap.size, 2, none⟩ = some (.int .i64 (v : Nat)) := by simp
          generalize (wr.alloc (.cells #[.int .i64 2, .int .i64 (u : Nat), .int .i64 (v : Nat)] 45)) = wa at *
          generalize wr.heap.size = gs at *
          clear c1 c2 c3 hbA
          go_wp2_with fail
          refine (node_any (n : Nat) (v : Nat) _ true ⟨fun _ => ⟨by omega, by omega⟩, fun _ => rfl⟩).mono ?_
          rintro e w3 ⟨rfl, rfl⟩
          go_wp2_with fail
          go_ret2
          exact ⟨j, 2, rfl, Or.inl ⟨hlt, HAll.out, Or.inr (Or.inl ⟨HSane.out, by rw [HQ.out]; decide, HEQ.out, rfl⟩)⟩, HBA.out⟩
        have t1 : ((u : Int) == (v : Int)) = false := by rw [beq_eq_false_iff_ne]; omega
        have t2 : (u == v) = false := by rw [beq_eq_false_iff_ne]; omega
        have HNE : Hid ((f j).2.1 ≠ (f j).2.2) := fun h => by rw [HX.out, HY.out] at h; omega
        clear huv
        go_wp2_with fail
        refine (node_any (n : Nat) (u : Nat) _ true ⟨fun _ => ⟨by omega, by omega⟩, fun _ => rfl⟩).mono ?_
        rintro e w2 ⟨rfl, rfl⟩
        have hbA : Below wr.heap.size wr (wr.alloc (.cells #[.int .i64 2, .int .i64 (u : Nat), .int .i64 (v : Nat)] 45)) := (Below.refl _ _).alloc (Nat.le_refl _) _
        have HBA : Hid (Below w1.heap.size w1 (wr.alloc (.cells #[.int .i64 2, .int .i64 (u : Nat), .int .i64 (v : Nat)] 45))) := HB.out.trans (hbA.mono HB.out.size)
        have HEA : Hid (EdgesAt (wr.alloc (.cells #[.int .i64 2, .int .i64 (u : Nat), .int .i64 (v : Nat)] 45)) av F) := HE.out.below hbA
        have HOA : Hid ((wr.alloc (.cells #[.int .i64 2, .int .i64 (u : Nat), .int .i64 (v : Nat)] 45)).ownsRow w1.heap.size 50 2 (.slice av L cv) L (twos F)) := own_keep HO.out hbA
        have s0 : (wr.alloc (.cells #[.int .i64 2, .int .i64 (u : Nat), .int .i64 (v : Nat)] 45)).cell? ⟨wr.heap.size, 0, none⟩ = some (.int .i64 2) := by simp
        have s1 : (wr.alloc (.cells #[.int .i64 2, .int .i64 (u : Nat), .int .i64 (v : Nat)] 45)).cell? ⟨wr.heap.size, 1, none⟩ = some (.int .i64 (u : Nat)) := by simp
        have s2 : (wr.alloc (.cells #[.int .i64 2, .int .i64 (u : Nat), .int .i64 (v : Nat)] 45)).cell? ⟨wr.heap.size, 2, none⟩ = some (.int .i64 (v : Nat)) := by simp
        generalize (wr.alloc (.cells #[.int .i64 2, .int .i64 (u : Nat), .int .i64 (v : Nat)] 45)) = wa at *
        generalize wr.heap.size = gs at *
        clear c1 c2 c3 hbA
        go_wp2_with fail
        refine (node_any (n : Nat) (v : Nat) _ true ⟨fun _ => ⟨by omega, by omega⟩, fun _ => rfl⟩).mono ?_
        rintro e w3 ⟨rfl, rfl⟩
        have hpl := place_ref (c := cv) HEA.out HL.out (by omega) (u : Nat) (v : Nat)
        go_wp2_with fail
        refine hpl.mono ?_
        rintro e w4 ⟨r, rfl, hb4, hk⟩
        have HB4 : Hid (Below w1.heap.size w1 w4) := HBA.out.trans (hb4.mono HBA.out.size)
        have HE4 : Hid (EdgesAt w4 av F) := HEA.out.below hb4
        have HO4 : Hid (w4.ownsRow w1.heap.size 50 2 (.slice av L cv) L (twos F)) := own_keep HOA.out hb4
        have s01 := cell_keep hb4 s0
        have s11 := cell_keep hb4 s1
        have s21 := cell_keep hb4 s2
        clear hpl s0 s1 s2
        rcases hk with ⟨jj, hjj, rfl, hof⟩ | ⟨rfl, hno⟩
        · have hget : F.getD jj (0, 0) = (min u v, max u v) := isOf_nat.1 hof
          have hin : (min u v, max u v) ∈ F := by
            rw [← hget, List.getD_eq_getElem?_getD, List.getElem?_eq_getElem (by rw [HL.out]; exact hjj)]
            exact List.getElem_mem _
          have j0 : (0 : Int) ≤ (jj : Int) := by omega
          have j1 : ¬ ((jj : Int) < 0) := by omega
          have HIN : Hid ((min u v, max u v) ∈ F) := hin
          have HGET : Hid (F.getD jj (0, 0) = (min u v, max u v)) := hget
          clear hof hget hin hb4
          obtain ⟨g, hg, -, -⟩ := HE4.out.cell jj (by rw [HL.out]; exact hjj)
          subst hg
          obtain ⟨M, rfl⟩ : ∃ M, L = M + 1 := ⟨L - 1, by omega⟩
          obtain ⟨P, R, hPR, hP⟩ := mid_at (E := F) (j := jj) (by rw [HL.out]; exact hjj)
          rw [HGET.out] at hPR
          have hl : (P ++ R).length = M := by have := HL.out; rw [hPR] at this; simp at this ⊢; omega
          have hout := out_own (c := cv) (x := (min u v, max u v)) (A := P) (B := R) (by rw [← hPR]; exact HE4.out) hl hcv hcm (by omega) hP
          have HN6 : Hid (here f (j + 1) = P ++ R) := show _ = _ by
            rw [here_drop HQ.out, HF.out, HEO.out, hPR]
            exact erase_mid (by rw [← hPR, ← HF.out]; exact here_nodup HAll.out)
          have HLM : Hid ((P ++ R).length = M) := hl
          have HM6 : Hid (∀ k, k < j + 1 → May n f k) := fun k hk => by
            rcases Nat.lt_or_ge k j with h | h
            · exact HAll.out k h
            · obtain rfl : k = j := by omega
              exact may_drop HSane.out HQ.out HNE.out (by rw [HEO.out, HF.out]; exact HIN.out)
          clear hPR hl hP
          go_wp2_with fail
          refine hout.mono ?_
          rintro e w5 ⟨v5, rfl, hb5, hown5⟩
          have HB5 : Hid (Below w1.heap.size w1 w5) := HB4.out.trans (hb5.mono HB4.out.size)
          have HO5 : Hid (w5.ownsRow w1.heap.size 50 2 v5 (P ++ R).length (twos (P ++ R))) := by rw [HLM.out]; exact own_mono hown5 HB4.out.size
          clear hout hb5 hown5
          go_wp2_with fail
          go_roundw
          case rel => exact ⟨j + 1, by omega, by go_num, HB5.out, HM6.out, by rw [HN6.out]; exact HO5.out⟩
          case measure => simp [intOf]; omega
        · have HOUT : Hid ((min u v, max u v) ∉ F) := fun q => hno _ q (isOf_nat.2 rfl)
          clear hno hb4
          go_wp2_with fail
          go_ret2
          exact ⟨j, 4, rfl, Or.inl ⟨hlt, HAll.out, Or.inr (Or.inr (Or.inr ⟨HSane.out, HQ.out, HNE.out, by rw [HEO.out, HF.out]; exact HOUT.out, rfl⟩))⟩, HB4.out⟩
      · clear hq1 hq3
        go_wp2_with fail
        refine (node_any (n : Nat) (u : Nat) _ true ⟨fun _ => ⟨by omega, by omega⟩, fun _ => rfl⟩).mono ?_
        rintro e w2 ⟨rfl, rfl⟩
        have hbA : Below wr.heap.size wr (wr.alloc (.cells #[.int .i64 3, .int .i64 (u : Nat), .int .i64 (v : Nat)] 45)) := (Below.refl _ _).alloc (Nat.le_refl _) _
        have HBA : Hid (Below w1.heap.size w1 (wr.alloc (.cells #[.int .i64 3, .int .i64 (u : Nat), .int .i64 (v : Nat)] 45))) := HB.out.trans (hbA.mono HB.out.size)
        have HEA : Hid (EdgesAt (wr.alloc (.cells #[.int .i64 3, .int .i64 (u : Nat), .int .i64 (v : Nat)] 45)) av F) := HE.out.below hbA
        have HOA : Hid ((wr.alloc (.cells #[.int .i64 3, .int .i64 (u : Nat), .int .i64 (v : Nat)] 45)).ownsRow w1.heap.size 50 2 (.slice av L cv) L (twos F)) := own_keep HO.out hbA
        have s0 : (wr.alloc (.cells #[.int .i64 3, .int .i64 (u : Nat), .int .i64 (v : Nat)] 45)).cell? ⟨wr.heap.size, 0, none⟩ = some (.int .i64 3) := by simp
        have s1 : (wr.alloc (.cells #[.int .i64 3, .int .i64 (u : Nat), .int .i64 (v : Nat)] 45)).cell? ⟨wr.heap.size, 1, none⟩ = some (.int .i64 (u : Nat)) := by simp
        have s2 : (wr.alloc (.cells #[.int .i64 3, .int .i64 (u : Nat), .int .i64 (v : Nat)] 45)).cell? ⟨wr.heap.size, 2, none⟩ = some (.int .i64 (v : Nat)) := by simp
        generalize (wr.alloc (.cells #[.int .i64 3, .int .i64 (u : Nat), .int .i64 (v : Nat)] 45)) = wa at *
        generalize wr.heap.size = gs at *
        clear c1 c2 c3 hbA
        go_wp2_with fail
        refine (node_any (n : Nat) (v : Nat) _ true ⟨fun _ => ⟨by omega, by omega⟩, fun _ => rfl⟩).mono ?_
        rintro e w3 ⟨rfl, rfl⟩
        have HM6 : Hid (∀ k, k < j + 1 → May n f k) := fun k hk => by
          rcases Nat.lt_or_ge k j with h | h
          · exact HAll.out k h
          · obtain rfl : k = j := by omega
            exact may_ask HSane.out HQ.out
        have HN6 : Hid (here f (j + 1) = F) := show _ = _ by rw [here_ask (by rw [HQ.out]; decide) (by rw [HQ.out]; decide), HF.out]
        go_wp2_with fail
        go_roundw
        case rel => exact ⟨j + 1, by omega, by go_num, HBA.out, HM6.out, by rw [HN6.out, HL.out]; exact HOA.out⟩
        case measure => simp [intOf]; omega
    · have HAll : Hid (∀ k, k < m → May n f k) := fun k hk => hall k (by omega)
      clear hall hown
      go_wp2_with fail
      go_ret2
      exact ⟨0, 0, rfl, Or.inr ⟨HAll.out, rfl, rfl⟩, hb⟩

end Go.Proofs.YthhojlbfnffdeabDoor.As
