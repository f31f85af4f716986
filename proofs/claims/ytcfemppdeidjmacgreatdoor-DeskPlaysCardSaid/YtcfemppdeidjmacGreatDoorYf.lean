/-
  Events on edges, by the statements' own Do.
-/
import Derived.Test.YtcfemppdeidjmacGreatDoorYb
import Derived.Test.YtcfemppdeidjmacGreatDoorBi
import Derived.Test.YtcfemppdeidjmacGreatDoorBj
namespace Go.Proofs.YtcfemppdeidjmacGreatDoor.Ds
open Go.RowKit Go.Deep Go.Proofs.YtcfemppdeidjmacGreatDoor.Br
open Go.Proofs.YtcfemppdeidjmacGreatDoor.Dk (EvAt)
open Go.RowKit (Below)
set_option linter.unusedVariables false

variable {w w' wr : World} {n : Nat} {A B : List (Nat × Nat)} {f : Nat → Ev} {m : Nat}

/-- How Do of the statements' own ends. -/
structure DoEnd (w : World) (n : Nat) (A : List (Nat × Nat)) (at_ : Option Addr) (f : Nat → Ev) (m : Nat) (e : Ending) (w' : World) : Prop where
  ex : ∃ (ob : Option Addr) (M oc : Nat) (na : Option Addr) (N' nc : Nat) (err : Int) (A' : List (Nat × Nat)) (out : List Bool),
    e = .returned (.tuple #[.slice ob M oc, .slice na N' nc, .int .i64 err]) ∧ out.length = M ∧ A'.length = N' ∧ Does n A (evl f m) err A' out ∧ BlAt w' ob out ∧ (∀ b o, ob = some ⟨b, o, none⟩ → w.heap.size ≤ b) ∧ M ≤ oc ∧ oc ≤ maxLen ∧ EdgesAt w' na A' ∧ N' ≤ nc ∧ nc ≤ maxLen ∧ Fine n A' ∧ ((na = at_ ∧ A' = A) ∨ ∀ b o, na = some ⟨b, o, none⟩ → w.heap.size ≤ b) ∧ Below w.heap.size w w'

/-- What is known of the list as far as it has come. -/
structure NowAt (w wr : World) (n : Nat) (at_ : Option Addr) (A : List (Nat × Nat)) (na : Option Addr) (B : List (Nat × Nat)) (N' nc : Nat) : Prop where
  len : B.length = N'
  edges : EdgesAt wr na B
  le : N' ≤ nc
  max : nc ≤ maxLen
  fine : Fine n B
  own : (na = at_ ∧ B = A ∧ EdgesAt w at_ B) ∨ wr.ownsRow w.heap.size 92 2 (.slice na N' nc) N' (twos B)
theorem NowAt.below {at_ na : Option Addr} {N' nc : Nat} (h : NowAt w wr n at_ A na B N' nc) (hb : Below wr.heap.size wr w') : NowAt w w' n at_ A na B N' nc := ⟨h.len, h.edges.below hb, h.le, h.max, h.fine, h.own.imp id fun q => Br.own_keep q hb⟩
theorem NowAt.since {at_ na : Option Addr} {N' nc : Nat} (h : NowAt w wr n at_ A na B N' nc) : (na = at_ ∧ B = A) ∨ ∀ b o, na = some ⟨b, o, none⟩ → w.heap.size ≤ b := h.own.imp (fun q => ⟨q.1, q.2.1⟩) fun q b o e => by
  rcases q.2 with ⟨e1, _⟩ | ⟨g', _, _, e1, hg, _⟩
  · cases e1
    cases e
  · cases e1
    cases e
    exact hg
/-- Two rows of different kinds: the one stays where the other grows. -/
theorem own_grown {base base' n n' s s' : Nat} {ty ty' : TypeId} {v v' : Value} {xs xs' : List Value} (h : w.ownsRow base ty s v n xs) (h' : w.ownsRow base' ty' s' v' n' xs') (hne : ty ≠ ty') (hg : w.grownBy w' v'.ownBlock) : w'.ownsRow base ty s v n xs := by
  refine ⟨h.1, ?_⟩
  rcases h.2 with h0 | ⟨g, cap, cur, hv, h1, h2, h3⟩
  · exact Or.inl h0
  · refine Or.inr ⟨g, cap, cur, hv, h1, ?_, h3⟩
    rw [hg.block g (Array.getElem?_eq_some_iff.1 h2).1 (fun e => ?_)]
    · exact h2
    · rcases h'.2 with ⟨q, _⟩ | ⟨g', cap', cur', hv', q1, q2, _⟩
      · rw [q] at e
        cases e
      · rw [hv'] at e
        cases e
        rw [h2] at q2
        cases q2
        exact hne rfl
/-- Beside answers that grow. -/
theorem NowAt.grown {at_ na : Option Addr} {N' nc M : Nat} {v : Value} {xs : List Value} (h : NowAt w wr n at_ A na B N' nc) (ho : wr.ownsRow w.heap.size 4 1 v M xs) (hg : wr.grownBy w' v.ownBlock) (hb : Below w.heap.size w w') : NowAt w w' n at_ A na B N' nc := by
  rcases h.own with ⟨rfl, e, q⟩ | q
  · exact ⟨h.len, q.below hb, h.le, h.max, h.fine, Or.inl ⟨rfl, e, q⟩⟩
  · have q2 := own_grown q ho (by decide) hg
    obtain ⟨a, c, e, hE, h1, h2⟩ := Br.own_edges q2 h.len
    cases e
    exact ⟨h.len, hE, h.le, h.max, h.fine, Or.inr q2⟩

def bls (l : List Bool) : List Value := l.map Value.bool
theorem own_bl {base M : Nat} {v : Value} {l : List Bool} (h : w.ownsRow base 4 1 v M (bls l)) (hM : l.length = M) : ∃ a c, v = .slice a M c ∧ BlAt w a l ∧ M ≤ c ∧ c ≤ maxLen ∧ (∀ b o, a = some ⟨b, o, none⟩ → base ≤ b) := by
  rcases h.2 with ⟨hv, h0⟩ | ⟨g, cap, cur, hv, hb, hg, h1, h2, h3, h4⟩
  · subst h0
    exact ⟨none, 0, hv, fun i hi => by omega, Nat.le_refl _, Nat.zero_le _, fun b o e => (by cases e)⟩
  · subst hv
    refine ⟨_, cap, rfl, fun i hi => ⟨g, 0, rfl, ?_⟩, h1, h2, fun b o e => by cases e; exact hb⟩
    have := h.cellAt i (by omega)
    rw [Nat.zero_add, this]
    unfold bls
    rw [List.getElem?_map, List.getElem?_eq_getElem hi, List.getD_eq_getElem?_getD, List.getElem?_eq_getElem hi]
    rfl
theorem Tryz.infoBoolD : (Tryz.prog.info? 4).map (fun i => (i.zero, i.size, i.bytes)) = some (some (.bool false), 1, 1) := by kernel_rfl

set_option maxRecDepth 100000 in
set_option maxHeartbeats 16000000 in
theorem do_any {at_ a : Option Addr} {N c0 c : Nat} (hA : EdgesAt w at_ A) (hN : A.length = N) (hc0 : N ≤ c0) (hc1 : c0 ≤ maxLen) (hf : Fine n A) (he : EvAt w a m f) (hm : m ≤ c) (hm2 : c ≤ maxLen) :
    Calls Tryz.prog 13 #[.int .i64 (n : Nat), .slice at_ N c0, .slice a m c] w (DoEnd w n A at_ f m) := by
  have HA : Hid (NowAt w w n at_ A at_ A N c0) := ⟨hN, hA, hc0, hc1, hf, Or.inl ⟨rfl, rfl, hA⟩⟩
  have HE : Hid (EvAt w a m f ∧ m ≤ c ∧ c ≤ maxLen) := ⟨he, hm, hm2⟩
  obtain ⟨z0, hi0, hz0, hz1, hz2⟩ := info_parts Tryz.infoBoolD
  clear hA hN hc0 hc1 hf he hm hm2
  by_cases hbig : 120 < m
  · have i0 : (120 : Int) < (m : Int) := by omega
    have HBg : Hid (120 < m) := hbig
    clear hbig
    go_enter Tryz.func13, Tryz.ntmps13
    go_wp2_with fail
    go_ret3
    exact ⟨none, 0, 0, at_, N, c0, 3, A, [], rfl, rfl, HA.out.len, full_does HBg.out, fun i hi => (by cases hi), fun b o e => (by cases e), Nat.le_refl _, Nat.zero_le _, HA.out.edges, HA.out.le, HA.out.max, HA.out.fine, Or.inl ⟨rfl, rfl⟩, Below.refl _ _⟩
  have i0 : ¬ (120 : Int) < (m : Int) := by omega
  have HM : Hid (m ≤ 120) := show _ ≤ _ by omega
  clear hbig
  go_enter Tryz.func13, Tryz.ntmps13
  go_wp2_with fail
  clear i0
  go_loopw [9, 10, 11] (fun vn vo i wr => ∃ (j : Nat) (B : List (Nat × Nat)) (out : List Bool) (na : Option Addr) (N' nc M : Nat), j ≤ m ∧ i = .int .i64 (j : Nat) ∧ vn = .slice na N' nc ∧ NowAt w wr n at_ A na B N' nc ∧ out.length = M ∧ wr.ownsRow w.heap.size 4 1 vo M (bls out) ∧ All n (evl f j) A 0 B out ∧ M ≤ j ∧ Below w.heap.size w wr) (fun _ _ i _ => m - (intOf i).toNat)
  case atStart => exact ⟨0, A, [], at_, N, c0, 0, Nat.zero_le _, rfl, rfl, HA.out, rfl, World.ownsRow_nil .., ⟨rfl, rfl, rfl⟩, Nat.le_refl _, Below.refl _ _⟩
  case round =>
    obtain ⟨j, B, out, na, N', nc, M, hj, rfl, rfl, hnow, hout, hown, hall, hMj, hb⟩ := hrel
    have HL : Hid (out.length = M ∧ All n (evl f j) A 0 B out ∧ M ≤ j) := ⟨hout, hall, hMj⟩
    clear hout hall hMj
    by_cases hlt : j < m
    · obtain ⟨b, o, rfl, q0, q1, q2⟩ := HE.out.1 j hlt
      obtain ⟨wh, hwh⟩ : ∃ wh, (f j).1 = wh := ⟨_, rfl⟩
      obtain ⟨x, hx⟩ : ∃ x, (f j).2.1 = x := ⟨_, rfl⟩
      obtain ⟨y, hy⟩ : ∃ y, (f j).2.2 = y := ⟨_, rfl⟩
      rw [hwh] at q0
      rw [hx] at q1
      rw [hy] at q2
      have HF : Hid (f j = (wh, x, y)) := show f j = _ by rw [← hwh, ← hx, ← hy]
      clear hwh hx hy
      replace q0 := Br.cell_keep hb q0
      replace q1 := Br.cell_keep hb q1
      replace q2 := Br.cell_keep hb q2
      have i0 : (0 : Int) ≤ (j : Int) := by omega
      have i1 : (j : Int) < (m : Int) := by omega
      have j5 : IntKind.i64.wrap ((j : Int) + 1) = (j : Int) + 1 := by rw [IntKind.wrap_i64]; have := HM.out; omega
      have hb1 : Below wr.heap.size wr (wr.alloc (.cells #[.int .i64 wh, .int .i64 x, .int .i64 y] 56)) := (Below.refl _ _).alloc (Nat.le_refl _) _
      have hcl : (wr.alloc (.cells #[.int .i64 wh, .int .i64 x, .int .i64 y] 56)).rowIs wr.heap.size 56 3 (fun i => if i = 0 then .int .i64 wh else if i = 1 then .int .i64 x else .int .i64 y) :=
        World.rowIs_alloc wr _ 56 _ fun i hi => by
          have : i = 0 ∨ i = 1 ∨ i = 2 := by simp at hi; omega
          rcases this with rfl | rfl | rfl <;> rfl
      have hnow1 := hnow.below hb1
      have hown1 := Br.own_keep hown hb1
      obtain ⟨Wl, hWl⟩ : ∃ Wl, wr.alloc (.cells #[.int .i64 wh, .int .i64 x, .int .i64 y] 56) = Wl := ⟨_, rfl⟩
      obtain ⟨E, hE⟩ : ∃ E, wr.heap.size = E := ⟨_, rfl⟩
      rw [hWl] at hb1 hcl hnow1 hown1
      rw [hE] at hcl
      have g0 : Wl.cell? ⟨E, 0, none⟩ = some (.int .i64 wh) := hcl.cell (i := 0) (by omega)
      have g1 : Wl.cell? ⟨E, 1, none⟩ = some (.int .i64 x) := hcl.cell (i := 1) (by omega)
      have g2 : Wl.cell? ⟨E, 2, none⟩ = some (.int .i64 y) := hcl.cell (i := 2) (by omega)
      have HW : Hid (NowAt w Wl n at_ A na B N' nc ∧ Wl.ownsRow w.heap.size 4 1 u10 M (bls out) ∧ Below w.heap.size w Wl) := ⟨hnow1, hown1, Br.below_step hb hb1⟩
      have HOB : Hid ((∀ k, u10.ownBlock = some k → k < E) ∧ E < Wl.heap.size) := ⟨fun k hk => hE ▸ (hown.lt k hk).2, hcl.lt⟩
      clear hnow hown hb hb1 hcl hnow1 hown1
      obtain ⟨qa, hqa⟩ : ∃ q : Bool, q = true ↔ (0 ≤ x ∧ x < (n : Int)) := ⟨decide (0 ≤ x ∧ x < (n : Int)), by simp⟩
      obtain ⟨qb, hqb⟩ : ∃ q : Bool, q = true ↔ (0 ≤ y ∧ y < (n : Int)) := ⟨decide (0 ≤ y ∧ y < (n : Int)), by simp⟩
      have HQ : Hid ((qa = true ↔ (0 ≤ x ∧ x < (n : Int))) ∧ (qb = true ↔ (0 ≤ y ∧ y < (n : Int)))) := ⟨hqa, hqb⟩
      clear hqa hqb
      go_wp2_with (first | rw [hWl, hE] | rw [hWl])
      refine (node_any (n : Nat) x Wl qa HQ.out.1).mono ?_
      rintro e w9 ⟨rfl, h9⟩
      rw [h9]
      clear h9
      go_wp2_with fail
      refine (node_any (n : Nat) y Wl qb HQ.out.2).mono ?_
      rintro e w9 ⟨rfl, h9⟩
      rw [h9]
      clear h9 hWl hE q0 q1 q2
      by_cases c1 : wh < 1
      · have HC : Hid (wh < 1) := c1
        go_wp2_with fail
        go_ret3
        exact ⟨none, 0, 0, at_, N, c0, 1, A, [], rfl, rfl, HA.out.len, stop_does (A' := []) (p := []) HL.out.2.1 (by omega) HM.out (by decide) (by rw [HF.out]; exact Or.inl ⟨fun q => by have := q.1.1; have := HC.out; omega, rfl⟩), fun i hi => (by cases hi), fun b o e => (by cases e), Nat.le_refl _, Nat.zero_le _, HA.out.edges.below HW.out.2.2, HA.out.le, HA.out.max, HA.out.fine, Or.inl ⟨rfl, rfl⟩, HW.out.2.2⟩
      by_cases c2 : 3 < wh
      · have HC : Hid (3 < wh) := c2
        go_wp2_with fail
        go_ret3
        exact ⟨none, 0, 0, at_, N, c0, 1, A, [], rfl, rfl, HA.out.len, stop_does (A' := []) (p := []) HL.out.2.1 (by omega) HM.out (by decide) (by rw [HF.out]; exact Or.inl ⟨fun q => by have := q.1.2; have := HC.out; omega, rfl⟩), fun i hi => (by cases hi), fun b o e => (by cases e), Nat.le_refl _, Nat.zero_le _, HA.out.edges.below HW.out.2.2, HA.out.le, HA.out.max, HA.out.fine, Or.inl ⟨rfl, rfl⟩, HW.out.2.2⟩
      cases qa with
      | false =>
        go_wp2_with fail
        go_ret3
        exact ⟨none, 0, 0, at_, N, c0, 1, A, [], rfl, rfl, HA.out.len, stop_does (A' := []) (p := []) HL.out.2.1 (by omega) HM.out (by decide) (by rw [HF.out]; exact Or.inl ⟨fun q => by have := HQ.out.1.2 q.2.1; simp at this, rfl⟩), fun i hi => (by cases hi), fun b o e => (by cases e), Nat.le_refl _, Nat.zero_le _, HA.out.edges.below HW.out.2.2, HA.out.le, HA.out.max, HA.out.fine, Or.inl ⟨rfl, rfl⟩, HW.out.2.2⟩
      | true =>
        cases qb with
        | false =>
          go_wp2_with fail
          go_ret3
          exact ⟨none, 0, 0, at_, N, c0, 1, A, [], rfl, rfl, HA.out.len, stop_does (A' := []) (p := []) HL.out.2.1 (by omega) HM.out (by decide) (by rw [HF.out]; exact Or.inl ⟨fun q => by have := HQ.out.2.2 q.2.2; simp at this, rfl⟩), fun i hi => (by cases hi), fun b o e => (by cases e), Nat.le_refl _, Nat.zero_le _, HA.out.edges.below HW.out.2.2, HA.out.le, HA.out.max, HA.out.fine, Or.inl ⟨rfl, rfl⟩, HW.out.2.2⟩
        | true =>
          obtain ⟨u, rfl⟩ := Int.eq_ofNat_of_zero_le (HQ.out.1.1 rfl).1
          obtain ⟨v, rfl⟩ := Int.eq_ofNat_of_zero_le (HQ.out.2.1 rfl).1
          have HU : Hid (u < n ∧ v < n ∧ IsN n (u : Int) ∧ IsN n (v : Int)) := ⟨by have := (HQ.out.1.1 rfl).2; omega, by have := (HQ.out.2.1 rfl).2; omega, HQ.out.1.1 rfl, HQ.out.2.1 rfl⟩
          clear HQ
          go_wp2_with fail
          refine (place_ref HW.out.1.edges HW.out.1.len (by have := HW.out.1.fine.len; have := HW.out.1.len; omega) (u : Int) (v : Int)).mono ?_
          rintro e W2 ⟨r, rfl, hb2, hor⟩
          have g0 := Br.cell_keep hb2 g0
          have g1 := Br.cell_keep hb2 g1
          have g2 := Br.cell_keep hb2 g2
          have HW2 : Hid (NowAt w W2 n at_ A na B N' nc ∧ W2.ownsRow w.heap.size 4 1 u10 M (bls out) ∧ Below w.heap.size w W2) := ⟨HW.out.1.below hb2, Br.own_keep HW.out.2.1 hb2, Br.below_step HW.out.2.2 hb2⟩
          have hor2 : (∃ jj : Nat, r = (jj : Int) ∧ ∃ P Q, B = P ++ pr (u : Int) (v : Int) :: Q ∧ P.length = jj) ∨ (r = -1 ∧ pr (u : Int) (v : Int) ∉ B) := by
            rcases hor with ⟨jj, hjj, rfl, hof⟩ | ⟨rfl, hno⟩
            · rw [isOf_pr] at hof
              refine Or.inl ⟨jj, rfl, B.take jj, B.drop (jj + 1), ?_, by rw [List.length_take]; have := HW.out.1.len; omega⟩
              have hl : jj < B.length := by rw [HW.out.1.len]; exact hjj
              rw [← hof, List.getD_eq_getElem?_getD, List.getElem?_eq_getElem hl]
              simp
            · exact Or.inr ⟨rfl, fun q => hno _ q (isOf_pr.2 rfl)⟩
          have HEs : Hid (E < W2.heap.size) := Nat.lt_of_lt_of_le HOB.out.2 hb2.size
          clear hb2 hor HW
          by_cases w1 : wh = 1
          · subst w1
            by_cases huv : u = v
            · subst huv
              have HC : Hid True := trivial
              rcases hor2 with ⟨jj, rfl, P, Q, hPQ, hP⟩ | ⟨rfl, hno⟩
              · go_wp2_with fail
                go_ret3
                exact ⟨none, 0, 0, at_, N, c0, 2, A, [], rfl, rfl, HA.out.len, stop_does (A' := []) (p := []) HL.out.2.1 (by omega) HM.out (by decide) (by rw [HF.out]; exact Or.inr (Or.inl ⟨⟨rfl, HU.out.2.2.1, HU.out.2.2.2⟩, rfl, rfl⟩)), fun i hi => (by cases hi), fun b o e => (by cases e), Nat.le_refl _, Nat.zero_le _, HA.out.edges.below HW2.out.2.2, HA.out.le, HA.out.max, HA.out.fine, Or.inl ⟨rfl, rfl⟩, HW2.out.2.2⟩
              · go_wp2_with fail
                go_ret3
                exact ⟨none, 0, 0, at_, N, c0, 2, A, [], rfl, rfl, HA.out.len, stop_does (A' := []) (p := []) HL.out.2.1 (by omega) HM.out (by decide) (by rw [HF.out]; exact Or.inr (Or.inl ⟨⟨rfl, HU.out.2.2.1, HU.out.2.2.2⟩, rfl, rfl⟩)), fun i hi => (by cases hi), fun b o e => (by cases e), Nat.le_refl _, Nat.zero_le _, HA.out.edges.below HW2.out.2.2, HA.out.le, HA.out.max, HA.out.fine, Or.inl ⟨rfl, rfl⟩, HW2.out.2.2⟩
            · have i2 : ¬ (u : Int) = (v : Int) := by omega
              have HNe : Hid ((u : Int) ≠ (v : Int)) := i2
              rcases hor2 with ⟨jj, rfl, P, Q, hPQ, hP⟩ | ⟨rfl, hno⟩
              · have HIn : Hid (pr (u : Int) (v : Int) ∈ B) := show _ ∈ _ by rw [hPQ]; simp
                have i3 : (0 : Int) ≤ (jj : Int) := by omega
                go_wp2_with fail
                go_ret3
                exact ⟨none, 0, 0, at_, N, c0, 6, A, [], rfl, rfl, HA.out.len, stop_does (A' := []) (p := []) HL.out.2.1 (by omega) HM.out (by decide) (by rw [HF.out]; exact Or.inr (Or.inr (Or.inl ⟨⟨rfl, HU.out.2.2.1, HU.out.2.2.2⟩, HNe.out, HIn.out, rfl⟩))), fun i hi => (by cases hi), fun b o e => (by cases e), Nat.le_refl _, Nat.zero_le _, HA.out.edges.below HW2.out.2.2, HA.out.le, HA.out.max, HA.out.fine, Or.inl ⟨rfl, rfl⟩, HW2.out.2.2⟩
              · have HNo : Hid (pr (u : Int) (v : Int) ∉ B) := hno
                by_cases hl : 200 ≤ N'
                · have HLn : Hid (200 ≤ B.length) := show _ ≤ _ by rw [HW2.out.1.len]; exact hl
                  have i3 : (200 : Int) ≤ (N' : Int) := by omega
                  go_wp2_with fail
                  go_ret3
                  exact ⟨none, 0, 0, at_, N, c0, 3, A, [], rfl, rfl, HA.out.len, stop_does (A' := []) (p := []) HL.out.2.1 (by omega) HM.out (by decide) (by rw [HF.out]; exact Or.inr (Or.inr (Or.inr (Or.inl ⟨⟨rfl, HU.out.2.2.1, HU.out.2.2.2⟩, HNe.out, HNo.out, HLn.out, rfl⟩)))), fun i hi => (by cases hi), fun b o e => (by cases e), Nat.le_refl _, Nat.zero_le _, HA.out.edges.below HW2.out.2.2, HA.out.le, HA.out.max, HA.out.fine, Or.inl ⟨rfl, rfl⟩, HW2.out.2.2⟩
                · have i3 : ¬ (200 : Int) ≤ (N' : Int) := by omega
                  have HLn : Hid (B.length < 200) := show _ < _ by rw [HW2.out.1.len]; omega
                  obtain ⟨P, Q, hPQ, hup⟩ := up_put HW2.out.1.fine.up hno
                  have hput := put_any (w := W2) (a := na) (n := N') (c := nc) (x := min u v) (y := max u v) (A := P) (B := Q) (by rw [← hPQ]; exact HW2.out.1.edges) (by rw [← hPQ]; exact HW2.out.1.len) (by have := HLn.out; have := HW2.out.1.len; omega) (u : Int) (v : Int) (by omega) (by omega) (by rw [pr_nat] at hup; exact hup)
                  have HPQ : Hid (B = P ++ Q ∧ Up (P ++ (min u v, max u v) :: Q)) := ⟨hPQ, by rw [pr_nat] at hup; exact hup⟩
                  clear hPQ hup hno hl huv
                  go_wp2_with fail
                  refine hput.mono ?_
                  rintro e W3 ⟨vv, rfl, hb3, how3⟩
                  obtain ⟨a3, c3, rfl, hE3, hc3, hm3⟩ := Br.own_edges how3 (by have h1 := HW2.out.1.len; rw [HPQ.out.1] at h1; simp at h1 ⊢; omega)
                  have HN3 : Hid (NowAt w W3 n at_ A a3 (P ++ (min u v, max u v) :: Q) (N' + 1) c3 ∧ W3.ownsRow w.heap.size 4 1 u10 M (bls out) ∧ Below w.heap.size w W3 ∧ All n (evl f (j + 1)) A 0 (P ++ (min u v, max u v) :: Q) (out ++ [])) := by
                    refine ⟨⟨by have h1 := HW2.out.1.len; rw [HPQ.out.1] at h1; simp at h1 ⊢; omega, hE3, hc3, hm3, ?_, Or.inr (Br.own_mono how3 HW2.out.2.2.size)⟩, Br.own_keep HW2.out.2.1 hb3, Br.below_step HW2.out.2.2 hb3, more_all HL.out.2.1 ?_⟩
                    · have hfi := HW2.out.1.fine
                      rw [HPQ.out.1] at hfi
                      exact hfi.put HPQ.out.2 (by have := HLn.out; rw [HPQ.out.1] at this; exact this) ⟨by show min u v < n; have := HU.out; omega, by show max u v < n; have := HU.out; omega⟩
                    · rw [HF.out]
                      exact Or.inr (Or.inr (Or.inr (Or.inr (Or.inl ⟨⟨rfl, HU.out.2.2.1, HU.out.2.2.2⟩, HNe.out, HNo.out, HLn.out, rfl, HPQ.out.2, by rw [pr_nat, HPQ.out.1]; exact List.perm_middle, rfl⟩))))
                  clear hb3 how3 hE3 hc3 hm3 hput g0 g1 g2 i3
                  go_wp2_with fail
                  go_roundw
                  case rel => exact ⟨j + 1, _, out ++ [], a3, N' + 1, c3, M, by omega, by go_num, by go_num, HN3.out.1, by simp; exact HL.out.1, by rw [List.append_nil]; exact HN3.out.2.1, HN3.out.2.2.2, by have := HL.out.2.2; omega, HN3.out.2.2.1⟩
                  case measure => simp [intOf]; omega
          · by_cases w2 : wh = 2
            · subst w2
              rcases hor2 with ⟨jj, rfl, P, Q, hPQ, hP⟩ | ⟨rfl, hno⟩
              · have i3 : ¬ (jj : Int) < 0 := by omega
                obtain ⟨nb, no, rfl⟩ : ∃ nb no, na = some ⟨nb, no, none⟩ := by
                  obtain ⟨b', o', e, _⟩ := HW2.out.1.edges.cell 0 (by rw [hPQ, List.length_append, List.length_cons]; omega)
                  exact ⟨b', o', e⟩
                obtain ⟨K, hK⟩ : ∃ K, (P ++ Q).length = K := ⟨_, rfl⟩
                have hNK : N' = K + 1 := by have := HW2.out.1.len; rw [hPQ] at this; simp at this hK; omega
                subst hNK
                have hout := out_own (w := W2) (b := nb) (o := no) (m := K) (c := nc) (k := jj) (x := pr (u : Int) (v : Int)) (A := P) (B := Q) (by rw [← hPQ]; exact HW2.out.1.edges) hK HW2.out.1.le HW2.out.1.max (by have := HW2.out.1.fine.len; have := HW2.out.1.len; omega) hP
                have HPQ : Hid (B = P ++ pr (u : Int) (v : Int) :: Q ∧ (P ++ Q).length = K) := ⟨hPQ, hK⟩
                clear hPQ hP hK
                go_wp2_with fail
                refine hout.mono ?_
                rintro e W3 ⟨vv, rfl, hb3, how3⟩
                obtain ⟨a3, c3, rfl, hE3, hc3, hm3⟩ := Br.own_edges how3 HPQ.out.2
                have HN3 : Hid (NowAt w W3 n at_ A a3 (P ++ Q) K c3 ∧ W3.ownsRow w.heap.size 4 1 u10 M (bls out) ∧ Below w.heap.size w W3 ∧ All n (evl f (j + 1)) A 0 (P ++ Q) (out ++ [])) := by
                  have hfi := HW2.out.1.fine
                  rw [HPQ.out.1] at hfi
                  refine ⟨⟨HPQ.out.2, hE3, hc3, hm3, hfi.out, Or.inr (Br.own_mono how3 HW2.out.2.2.size)⟩, Br.own_keep HW2.out.2.1 hb3, Br.below_step HW2.out.2.2 hb3, more_all HL.out.2.1 ?_⟩
                  · rw [HF.out]
                    exact Or.inr (Or.inr (Or.inr (Or.inr (Or.inr (Or.inr (Or.inl ⟨⟨rfl, HU.out.2.2.1, HU.out.2.2.2⟩, by rw [HPQ.out.1]; simp, rfl, hfi.out.up, by rw [HPQ.out.1]; exact List.perm_middle, rfl⟩))))))
                clear hb3 how3 hE3 hc3 hm3 hout g0 g1 g2 i3
                go_wp2_with fail
                go_roundw
                case rel => exact ⟨j + 1, _, out ++ [], a3, K, c3, M, by omega, by go_num, rfl, HN3.out.1, by simp; exact HL.out.1, by rw [List.append_nil]; exact HN3.out.2.1, HN3.out.2.2.2, by have := HL.out.2.2; omega, HN3.out.2.2.1⟩
                case measure => simp [intOf]; omega
              · have HNo : Hid (pr (u : Int) (v : Int) ∉ B) := hno
                go_wp2_with fail
                go_ret3
                exact ⟨none, 0, 0, at_, N, c0, 4, A, [], rfl, rfl, HA.out.len, stop_does (A' := []) (p := []) HL.out.2.1 (by omega) HM.out (by decide) (by rw [HF.out]; exact Or.inr (Or.inr (Or.inr (Or.inr (Or.inr (Or.inl ⟨⟨rfl, HU.out.2.2.1, HU.out.2.2.2⟩, HNo.out, rfl⟩)))))), fun i hi => (by cases hi), fun b o e => (by cases e), Nat.le_refl _, Nat.zero_le _, HA.out.edges.below HW2.out.2.2, HA.out.le, HA.out.max, HA.out.fine, Or.inl ⟨rfl, rfl⟩, HW2.out.2.2⟩
            · obtain rfl : wh = 3 := by omega
              clear hor2
              obtain ⟨p, hp⟩ := rest_of B
              have hpo := parts_of (w := W2) HW2.out.1.edges HW2.out.1.len (by have := HW2.out.1.fine.len; have := HW2.out.1.len; omega) (c := nc) n (by have := HW2.out.1.fine.n1; omega) HW2.out.1.fine.n60 HW2.out.1.fine.among hp
              have HR : Hid (Rest B p) := hp
              clear hp
              go_wp2_with fail
              refine hpo.mono ?_
              rintro e W3 ⟨k3, cap3, rfl, hb3, hk3, hpc⟩
              have g0 := Br.cell_keep hb3 g0
              have g1 := Br.cell_keep hb3 g1
              have g2 := Br.cell_keep hb3 g2
              have d1 := hpc u HU.out.1
              have d2 := hpc v HU.out.2.1
              have hN3 := HW2.out.1.below hb3
              have hO3 := Br.own_keep HW2.out.2.1 hb3
              have hB3 := Br.below_step HW2.out.2.2 hb3
              have HW3 : Hid (NowAt w W3 n at_ A na B N' nc ∧ W3.ownsRow w.heap.size 4 1 u10 M (bls out) ∧ Below w.heap.size w W3) := ⟨hN3, hO3, hB3⟩
              have i4 : (0 : Int) ≤ (u : Int) := by omega
              have i5 : (0 : Int) ≤ (v : Int) := by omega
              have i6 : (u : Int) < (n : Int) := by have := HU.out; omega
              have i7 : (v : Int) < (n : Int) := by have := HU.out; omega
              have hfE : ∀ k, u10.ownBlock = some k → E ≠ k := fun k hk e => by have := HOB.out.1 k hk; omega
              have hfK : ∀ k, u10.ownBlock = some k → k3 ≠ k := fun k hk e => by have := HOB.out.1 k hk; have := HEs.out; omega
              have hlE : E < W3.heap.size := Nat.lt_of_lt_of_le HEs.out hb3.size
              have hlK : k3 < W3.heap.size := World.block_lt_of_cell? _ _ d1
              clear hb3 hk3 hpc hpo hN3 hO3 hB3 c1 c2 w1 w2
              obtain ⟨pu, hpu⟩ : ∃ pu, p u = pu := ⟨_, rfl⟩
              obtain ⟨pv, hpv⟩ : ∃ pv, p v = pv := ⟨_, rfl⟩
              rw [hpu] at d1
              rw [hpv] at d2
              obtain ⟨q, hq⟩ : ∃ q : Bool, ((pu : Int) == (pv : Int)) = q := ⟨_, rfl⟩
              have HJ : Hid (q = true ↔ Jn B (u : Int) (v : Int)) := by
                show q = true ↔ Conn B u v
                rw [← HR.out.same, hpu, hpv, ← hq, beq_iff_eq]
                omega
              clear hpu hpv
              go_wp2_with fail
              go_region_held3 (fun V => V.cell? ⟨E, 1, none⟩ = some (.int .i64 (u : Nat)) ∧ V.cell? ⟨E, 2, none⟩ = some (.int .i64 (v : Nat)) ∧ V.cell? ⟨k3, u, none⟩ = some (.int .i64 (pu : Nat)) ∧ V.cell? ⟨k3, v, none⟩ = some (.int .i64 (pv : Nat)))
                (first
                  | (go_keep; done)
                  | exact ⟨(hgrow.cell_far ⟨E, 1, none⟩ (by simp; omega) (fun e => hfE E e.symm rfl)).trans (cell_keep (((Below.refl _ _).drew).alloc (Nat.le_refl _) _) g1), (hgrow.cell_far ⟨E, 2, none⟩ (by simp; omega) (fun e => hfE E e.symm rfl)).trans (cell_keep (((Below.refl _ _).drew).alloc (Nat.le_refl _) _) g2), (hgrow.cell_far ⟨k3, u, none⟩ (by simp; omega) (fun e => hfK k3 e.symm rfl)).trans (cell_keep (((Below.refl _ _).drew).alloc (Nat.le_refl _) _) d1), (hgrow.cell_far ⟨k3, v, none⟩ (by simp; omega) (fun e => hfK k3 e.symm rfl)).trans (cell_keep (((Below.refl _ _).drew).alloc (Nat.le_refl _) _) d2)⟩
                  | exact ⟨cell_keep (((Below.refl _ _).drew).alloc (Nat.le_refl _) _) g1, cell_keep (((Below.refl _ _).drew).alloc (Nat.le_refl _) _) g2, cell_keep (((Below.refl _ _).drew).alloc (Nat.le_refl _) _) d1, cell_keep (((Below.refl _ _).drew).alloc (Nat.le_refl _) _) d2⟩)
                ((refine step_append_lies _ (by rfl) (.tmp 68) (.tmp 80) 42 (by rfl) w.heap.size 4 z0 (.bool false) 1 1 Tryz.underlying42 hi0 hz0 hz1 hz2 rfl (by decide) u10 M (bls out) (by simp [Act.eval]) (World.ownsRow.alloc (w := W3.drew) HW3.out.2.1 _) ⟨W3.heap.size, 0, none⟩ 1 1 [.bool q] (by simp [Act.eval]) rfl (by exact Br.cell_one_new W3.drew (.bool q) 4) (by simp [Value.oneCell']) (by decide) (by unfold maxLen; have := HL.out.2.2; have := HM.out; omega) (by have := HL.out.2.2; have := HM.out; omega) (by simp; have := HW3.out.2.2.size; omega) _ rfl ?_; intro g9 cap9 w9 hown9 hgrow hat hlt9))
              have hb9 : Below w.heap.size w w9 := (HW3.out.2.2.drew.alloc (by exact HW3.out.2.2.size) _).grown hgrow (by simp; have := HW3.out.2.2.size; omega) (fun k e => (HW3.out.2.1.lt k e).1)
              have HN9 : Hid (NowAt w w9 n at_ A na B N' nc ∧ w9.ownsRow w.heap.size 4 1 (.slice (some ⟨g9, 0, none⟩) (M + 1) cap9) (M + 1) (bls (out ++ [q])) ∧ Below w.heap.size w w9 ∧ All n (evl f (j + 1)) A 0 B (out ++ [q])) := by
                refine ⟨NowAt.grown (HW3.out.1.below ((Below.refl _ _).drew.alloc (Nat.le_refl _) (.cells #[.bool q] 4))) (World.ownsRow.alloc (w := W3.drew) HW3.out.2.1 _) hgrow hb9, ?_, hb9, more_all HL.out.2.1 ?_⟩
                · rw [show bls (out ++ [q]) = bls out ++ [.bool q] by simp [bls]]
                  exact hown9
                · rw [HF.out]
                  exact Or.inr (Or.inr (Or.inr (Or.inr (Or.inr (Or.inr (Or.inr ⟨⟨rfl, HU.out.2.2.1, HU.out.2.2.2⟩, rfl, rfl, q, HJ.out, rfl⟩))))))
              clear hown9 hgrow hat hlt9 hb9 g0 g1 g2 d1 d2 hfE hfK hlE hlK
              go_wp2_with fail
              go_roundw
              case rel => exact ⟨j + 1, B, out ++ [q], na, N', nc, M + 1, by omega, by go_num, rfl, HN9.out.1, by simp; exact HL.out.1, HN9.out.2.1, HN9.out.2.2.2, by have := HL.out.2.2; omega, HN9.out.2.2.1⟩
              case measure => simp [intOf]; omega
    · obtain rfl : j = m := by omega
      obtain ⟨oa, oc, rfl, ho1, ho2, ho3, ho4⟩ := own_bl hown HL.out.1
      have i1 : ¬ (j : Int) < (j : Int) := by omega
      have HW : Hid (NowAt w wr n at_ A na B N' nc ∧ BlAt wr oa out ∧ M ≤ oc ∧ oc ≤ maxLen ∧ Below w.heap.size w wr ∧ ∀ b o, oa = some ⟨b, o, none⟩ → w.heap.size ≤ b) := ⟨hnow, ho1, ho2, ho3, hb, ho4⟩
      clear hnow hb hown ho1 ho2 ho3 ho4
      go_wp2_with fail
      go_ret3
      exact ⟨oa, M, oc, na, N', nc, 0, B, out, rfl, HL.out.1, HW.out.1.len, done_does HL.out.2.1 HM.out, HW.out.2.1, HW.out.2.2.2.2.2, HW.out.2.2.1, HW.out.2.2.2.1, HW.out.1.edges, HW.out.1.le, HW.out.1.max, HW.out.1.fine, HW.out.1.since, HW.out.2.2.2.2.1⟩

end Go.Proofs.YtcfemppdeidjmacGreatDoor.Ds
