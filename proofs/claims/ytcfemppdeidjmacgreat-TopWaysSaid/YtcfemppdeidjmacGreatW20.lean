/-
  Br Bs
-/
import Derived.Test.YtcfemppdeidjmacGreatW19
namespace Go.Proofs.YtcfemppdeidjmacGreat.Br
open Go.RowKit Go.Deep
open Go.RowKit (Below)
set_option linter.unusedVariables false

variable {w w' : World} {kw kn n a base : Nat} {V : Nat → Value} {nb : Nat → List Nat} {s s' : St} {E : List (Nat × Nat)} {A : List Nat} {L : Nat}

structure Near (E : List (Nat × Nat)) (n : Nat) (nb : Nat → List Nat) : Prop where
  adj : ∀ a y, Adj E a y ↔ y ∈ nb a
  lt : ∀ a y, y ∈ nb a → a < n ∧ y < n
  few : ∀ a, (nb a).length ≤ 200

theorem arrive_any (h : WAt w kw kn n V nb s) (hI : Inv E n s A) (hbw : base ≤ kw) (hbn : base ≤ kn) (ha : a < n) (h0 : s.turn a = 0) (hL : (A = [] ∧ L = a) ∨ ∃ k A', A = k :: A' ∧ L = s.least k) (hn : n ≤ 60) :
    Calls Tryz.prog 128 #[.pointer (some ⟨kw, 0, none⟩), .int .i64 (a : Nat), .int .i64 (frOf A)] w fun e w' => e = .returned (.tuple #[]) ∧ WAt w' kw kn n V nb (arrived s a A L) ∧ Below base w w' := by
  have hT : s.T < n := by
    have h1 := hI.sum
    have h2 := free_one (n := n) (t := s.turn) ha h0 (v := 1) (by omega)
    omega
  rcases hL with ⟨rfl, rfl⟩ | ⟨k, A', rfl, rfl⟩
  · exact arrive_root h hbw hbn ha hT hn (hI.zero _ h0)
  · have hk := hI.act k List.mem_cons_self
    exact arrive_on h hbw hbn ha (hI.lt k hk) (fun e => by subst e; omega) hT hn

set_option maxRecDepth 100000 in
set_option maxHeartbeats 2000000 in
theorem walk_any (hN : Near E n nb) (hn : n ≤ 60) (hbw : base ≤ kw) (hbn : base ≤ kn) : ∀ (m : Nat) {w : World} {s : St} {A : List Nat} {a L : Nat}, n - s.T ≤ m → WAt w kw kn n V nb s → Inv E n s A → a < n → s.turn a = 0 → ((A = [] ∧ L = a) ∨ ∃ k A', A = k :: A' ∧ L = s.least k ∧ Adj E a k) →
    Calls Tryz.prog 95 #[.pointer (some ⟨kw, 0, none⟩), .int .i64 (a : Nat), .int .i64 (frOf A)] w fun e w' => e = .returned (.tuple #[]) ∧ ∃ s', WAt w' kw kn n V nb s' ∧ Walked E n s s' a A L ∧ Below base w w' := by
  intro m
  induction m with
  | zero =>
    intro w s A a L hm h hI ha h0 hA
    exfalso
    have h1 := hI.sum
    have h2 := free_one (n := n) (t := s.turn) ha h0 (v := 1) (by omega)
    omega
  | succ m ih =>
  intro w s A a L hm h hI ha h0 hA
  have har := arrive_any (L := L) h hI hbw hbn ha h0 (hA.imp id fun ⟨k, A', h1, h2, _⟩ => ⟨k, A', h1, h2⟩) hn
  have HM : Hid (Mid E n s (arrived s a A L) a A [] L) := mid_start hI ha h0 (fun k hk => by
    rcases hA with ⟨rfl, _⟩ | ⟨k', A', rfl, _, h3⟩
    · cases hk
    · cases hk; exact h3)
  have HN : Hid (Near E n nb) := hN
  have HI : Hid (∀ {w : World} {s : St} {A : List Nat} {a L : Nat}, n - s.T ≤ m → WAt w kw kn n V nb s → Inv E n s A → a < n → s.turn a = 0 → ((A = [] ∧ L = a) ∨ ∃ k A', A = k :: A' ∧ L = s.least k ∧ Adj E a k) →
    Calls Tryz.prog 95 #[.pointer (some ⟨kw, 0, none⟩), .int .i64 (a : Nat), .int .i64 (frOf A)] w fun e w' => e = .returned (.tuple #[]) ∧ ∃ s', WAt w' kw kn n V nb s' ∧ Walked E n s s' a A L ∧ Below base w w') := ih
  have HMs : Hid (n - s.T ≤ m + 1) := hm
  have i0 : (0 : Int) ≤ (a : Int) := by omega
  have i1 : (a : Int) < (n : Int) := by omega
  obtain ⟨ba, ca, eV, -, eb⟩ := h.near a ha
  obtain ⟨x, hx⟩ : ∃ x, frOf A = x := ⟨_, rfl⟩
  obtain ⟨N, hlen⟩ : ∃ N, (nb a).length = N := ⟨_, rfl⟩
  have HX : Hid (frOf A = x) := hx
  have HLen : Hid ((nb a).length = N) := hlen
  have hN2 : N ≤ 200 := by rw [← hlen]; exact hN.few a
  rw [hlen] at eV
  rw [hx] at har ⊢
  clear ih h hI h0 hA hm hN hx
  go_enter Tryz.func95, Tryz.ntmps95
  go_wp2_with fail
  refine har.mono ?_
  rintro e w1 ⟨rfl, hW1, hb1⟩
  have c0 := hW1.w0
  have d0 := hW1.f0 ha
  rw [eV] at d0
  have HW : Hid (WAt w1 kw kn n V nb (arrived s a A L)) := hW1
  have HB : Hid (Below base w w1) := hb1
  clear har hW1 hb1
  go_wp2_with fail
  clear c0 d0
  go_loopw [8, 9, 25] (fun _ _ i wr => ∃ j : Nat, j ≤ N ∧ i = .int .i64 (j : Nat) ∧ ∃ sr, WAt wr kw kn n V nb sr ∧ Mid E n s sr a A ((nb a).take j) L ∧ Below base w wr) (fun _ _ i _ => N - (intOf i).toNat)
  case atStart => exact ⟨0, Nat.zero_le _, rfl, _, HW.out, by simpa using HM.out, HB.out⟩
  case round =>
    obtain ⟨j, hj, rfl, sr, hWr, hMr, hbr⟩ := hrel
    by_cases hlt : j < N
    · obtain ⟨y, hy⟩ : ∃ y, (nb a)[j]? = some y := ⟨(nb a)[j]'(by rw [HLen.out]; exact hlt), List.getElem?_eq_getElem (by rw [HLen.out]; exact hlt)⟩
      have hym : y ∈ nb a := List.mem_of_getElem? hy
      have hyn := (HN.out.lt a y hym).2
      have hady : Adj E a y := (HN.out.adj a y).2 hym
      have htk : (nb a).take (j + 1) = (nb a).take j ++ [y] := by rw [List.take_add_one, hy]; rfl
      obtain ⟨ba', ca', eV', hIn, -⟩ := hWr.near a ha
      rw [eV, HLen.out] at eV'
      obtain ⟨rfl, -⟩ : ba = ba' ∧ ca = ca' := by simpa using eV'
      obtain ⟨kb, ob, rfl, cy⟩ := hIn.cell j (by rw [HLen.out]; exact hlt)
      rw [List.getD_eq_getElem?_getD, hy] at cy
      replace cy : wr.cell? ⟨kb, ob + j, none⟩ = some (.int .i64 (y : Nat)) := cy
      have c0 := hWr.w0
      have e3 := hWr.f3 hyn
      have i2 : (0 : Int) ≤ (y : Int) := by omega
      have i3 : (y : Int) < (n : Int) := by omega
      have i4 : (0 : Int) ≤ (j : Int) := by omega
      have i5 : (j : Int) < (N : Int) := by omega
      have HWr : Hid (WAt wr kw kn n V nb sr) := hWr
      have HMr : Hid (Mid E n s sr a A ((nb a).take j) L) := hMr
      have HBr : Hid (Below base w wr) := hbr
      have HT : Hid ((nb a).take (j + 1) = (nb a).take j ++ [y] ∧ Adj E a y) := ⟨htk, hady⟩
      clear hy hym htk hady hIn eV'
      by_cases hyx : (y : Int) = x
      · have t1 : ((y : Int) == x) = true := by simp [hyx]
        have HS : Hid (Mid E n s sr a A ((nb a).take (j + 1)) L) := by
          have hf : sr.fr a = (y : Nat) := by rw [hMr.fra, HX.out, hyx]
          have hv : 0 < sr.turn y := by
            have hfa := HX.out
            cases A with
            | nil => rw [← hfa] at hyx; exact absurd hyx (by show ¬ ((y : Nat) : Int) = -1; omega)
            | cons k A' =>
              have : ((k : Nat) : Int) = x := hfa
              obtain rfl : k = y := by omega
              exact hMr.keep.pos (hMr.pre.act k List.mem_cons_self)
          show Mid _ _ _ _ _ _ _ _
          rw [HT.out.1]
          exact hMr.skip hf hv
        clear hWr hMr hbr e3
        go_wp2_with fail
        go_roundw
        case rel => exact ⟨j + 1, by omega, by go_num, sr, HWr.out, HS.out, HBr.out⟩
        case measure => simp [intOf]; omega
      have t1 : ((y : Int) == x) = false := by rw [beq_eq_false_iff_ne]; exact hyx
      have HF : Hid (sr.fr a ≠ (y : Nat)) := show _ ≠ _ by rw [hMr.fra, HX.out]; exact fun e => hyx e.symm
      clear hyx
      by_cases hty : 0 < sr.turn y
      · have HS : Hid (Mid E n s (touch sr a (min (sr.back a) (sr.turn y)) (sr.pieces a)) a A ((nb a).take (j + 1)) L) := by
          show Mid _ _ _ _ _ _ _ _
          rw [HT.out.1]
          exact hMr.back hty HT.out.2 HF.out
        have e4 := hWr.f4 ha
        have z0 := hWr.fz
        have HWS := hWr.set4 (a := a) (min (sr.back a) (sr.turn y))
        have i6 : (0 : Int) < (sr.turn y : Int) := by omega
        clear hMr
        go_wp2_with fail
        go_region
        have hmn : (if sr.turn y < sr.back a then ((sr.turn y : Nat) : Int) else ((sr.back a : Nat) : Int)) = ((min (sr.back a) (sr.turn y) : Nat) : Int) := by split <;> omega
        have hW2 : WAt (wr.setCell ⟨kn, a * 6 + 4, none⟩ (.int .i64 (if sr.turn y < sr.back a then ((sr.turn y : Nat) : Int) else ((sr.back a : Nat) : Int)))).drew kw kn n V nb (touch sr a (min (sr.back a) (sr.turn y)) (sr.pieces a)) := by
          rw [hmn]
          exact (HWS.drewN 1 rfl).as (fun i hi => ⟨rfl, rfl, rfl, rfl, by
            show upd sr.pieces a (sr.pieces a) i = sr.pieces i
            by_cases e : i = a
            · subst e; exact upd_self ..
            · exact upd_ne _ _ e⟩) rfl
        have hB2 : Below base w (wr.setCell ⟨kn, a * 6 + 4, none⟩ (.int .i64 (if sr.turn y < sr.back a then ((sr.turn y : Nat) : Int) else ((sr.back a : Nat) : Int)))).drew := (HBr.out.setCell hbn _).drew
        generalize (wr.setCell ⟨kn, a * 6 + 4, none⟩ (.int .i64 (if sr.turn y < sr.back a then ((sr.turn y : Nat) : Int) else ((sr.back a : Nat) : Int)))).drew = W2 at hW2 hB2 ⊢
        have HW2 : Hid (WAt W2 kw kn n V nb (touch sr a (min (sr.back a) (sr.turn y)) (sr.pieces a)) ∧ Below base w W2) := ⟨hW2, hB2⟩
        clear hWr hbr e3 e4 z0 HWS hmn hW2 hB2 c0 cy
        go_wp2_with fail
        go_roundw
        case rel => exact ⟨j + 1, by omega, by go_num, _, HW2.out.1, HS.out, HW2.out.2⟩
        case measure => simp [intOf]; omega
      · have hy0 : sr.turn y = 0 := by omega
        have hya : y ≠ a := fun e => by
          have := hMr.inv.act a List.mem_cons_self
          subst e
          omega
        have hrec := HI.out (w := wr) (s := sr) (A := a :: A) (a := y) (L := L) (by
          have h1 := hMr.T
          have h2 := hMr.inv.sum
          have h3 := HMs.out
          omega) hWr hMr.inv hyn hy0 (Or.inr ⟨a, A, rfl, (hMr.new a hMr.unseen (hMr.inv.act a List.mem_cons_self)).2.1.symm, HT.out.2.symm⟩)
        replace hrec : Calls Tryz.prog 95 #[.pointer (some ⟨kw, 0, none⟩), .int .i64 (y : Nat), .int .i64 (a : Nat)] wr fun e w' => e = .returned (.tuple #[]) ∧ ∃ s', WAt w' kw kn n V nb s' ∧ Walked E n sr s' y (a :: A) L ∧ Below base wr w' := hrec
        have i6 : ¬ (0 : Int) < (sr.turn y : Int) := by omega
        rw [hy0] at e3 i6
        clear hMr hWr hbr hty
        go_wp2_with fail
        refine hrec.mono ?_
        rintro e w2 ⟨rfl, s2, hW2, hWk, hb2⟩
        have HS : Hid (Mid E n s (touch s2 a (min (s2.back a) (s2.back y)) (s2.pieces a + if s2.turn a ≤ s2.back y then 1 else 0)) a A ((nb a).take (j + 1)) L) := by
          show Mid _ _ _ _ _ _ _ _
          rw [HT.out.1]
          exact HMr.out.kid hWk HT.out.2
        have hfew : s2.pieces a ≤ 201 := by
          rw [(hWk.keep a (HMr.out.inv.act a List.mem_cons_self)).pieces]
          have h1 := HMr.out.few
          rw [List.length_take, HLen.out] at h1
          omega
        have HB2 : Hid (Below base w w2) := HBr.out.trans hb2
        have d4 := hW2.f4 ha
        have e4 := hW2.f4 hyn
        have z0 := hW2.fz
        have HWS := hW2.set4 (a := a) (min (s2.back a) (s2.back y))
        clear hrec hWk hb2 e3 c0 cy i6
        go_wp2_with fail
        go_region
        have hmn : (if s2.back y < s2.back a then ((s2.back y : Nat) : Int) else ((s2.back a : Nat) : Int)) = ((min (s2.back a) (s2.back y) : Nat) : Int) := by split <;> omega
        rw [hmn]
        have hW3 : WAt (w2.setCell ⟨kn, a * 6 + 4, none⟩ (.int .i64 ((min (s2.back a) (s2.back y) : Nat) : Int))).drew kw kn n V nb { s2 with back := upd s2.back a (min (s2.back a) (s2.back y)) } := HWS.drewN 1 rfl
        have hB3 : Below base w (w2.setCell ⟨kn, a * 6 + 4, none⟩ (.int .i64 ((min (s2.back a) (s2.back y) : Nat) : Int))).drew := (HB2.out.setCell hbn _).drew
        clear d4 e4 z0 HWS hW2
        generalize (w2.setCell ⟨kn, a * 6 + 4, none⟩ (.int .i64 ((min (s2.back a) (s2.back y) : Nat) : Int))).drew = W3 at hW3 hB3 ⊢
        generalize ((min (s2.back a) (s2.back y) : Nat) : Int) = mn
        have HW3 : Hid (WAt W3 kw kn n V nb { s2 with back := upd s2.back a (min (s2.back a) (s2.back y)) } ∧ Below base w W3) := ⟨hW3, hB3⟩
        have d3 : W3.cell? ⟨kn, a * 6 + 3, none⟩ = some (.int .i64 (s2.turn a : Nat)) := hW3.f3 ha
        have e4 : W3.cell? ⟨kn, y * 6 + 4, none⟩ = some (.int .i64 (s2.back y : Nat)) := by
          rw [hW3.f4 hyn]
          show some (Value.int .i64 ((upd s2.back a _ y : Nat) : Int)) = _
          rw [upd_ne _ _ hya]
        have d5 : W3.cell? ⟨kn, a * 6 + 5, none⟩ = some (.int .i64 (s2.pieces a : Nat)) := hW3.f5 ha
        have z0 := hW3.fz
        clear hmn hW3 hB3
        by_cases hge : s2.turn a ≤ s2.back y
        · have hge' : ((s2.turn a : Nat) : Int) ≤ ((s2.back y : Nat) : Int) := by omega
          have hw5 : IntKind.i64.wrap ((s2.pieces a : Nat) + 1 : Int) = ((s2.pieces a + 1 : Nat) : Int) := by rw [IntKind.wrap_i64]; omega
          go_wp2_with fail
          go_quiet (fail)
          have hW4 := HW3.out.1.drewN nq rfl
          have hB4 : Below base w (W3.drewN nq) := HW3.out.2.trans ((below_drewN rfl).mono (by have := HW3.out.1.st.lt; omega))
          clear d3 e4 d5 z0
          generalize W3.drewN nq = W4 at hW4 hB4 ⊢
          have d5 : W4.cell? ⟨kn, a * 6 + 5, none⟩ = some (.int .i64 (s2.pieces a : Nat)) := hW4.f5 ha
          have z0 := hW4.fz
          have HW5 : Hid (WAt (W4.setCell ⟨kn, a * 6 + 5, none⟩ (.int .i64 ((s2.pieces a + 1 : Nat) : Int))) kw kn n V nb (touch s2 a (min (s2.back a) (s2.back y)) (s2.pieces a + if s2.turn a ≤ s2.back y then 1 else 0)) ∧ Below base w (W4.setCell ⟨kn, a * 6 + 5, none⟩ (.int .i64 ((s2.pieces a + 1 : Nat) : Int)))) := ⟨(hW4.set5 (a := a) (s2.pieces a + 1)).as (fun i hi => ⟨rfl, rfl, rfl, rfl, by
            show upd s2.pieces a (s2.pieces a + if s2.turn a ≤ s2.back y then 1 else 0) i = _
            rw [if_pos hge]⟩) rfl, hB4.setCell hbn _⟩
          clear hW4 hB4
          generalize s2.pieces a + 1 = pp at hw5 HW5
          go_wp2_with fail
          go_roundw
          case rel => exact ⟨j + 1, by omega, by go_num, _, HW5.out.1, HS.out, HW5.out.2⟩
          case measure => simp [intOf]; omega
        · have hge' : ¬ ((s2.turn a : Nat) : Int) ≤ ((s2.back y : Nat) : Int) := by omega
          go_wp2_with fail
          go_quiet (fail)
          have HW4 : Hid (WAt (W3.drewN nq) kw kn n V nb (touch s2 a (min (s2.back a) (s2.back y)) (s2.pieces a + if s2.turn a ≤ s2.back y then 1 else 0)) ∧ Below base w (W3.drewN nq)) := ⟨(HW3.out.1.drewN nq rfl).as (fun i hi => ⟨rfl, rfl, rfl, rfl, by
            show upd s2.pieces a (s2.pieces a + if s2.turn a ≤ s2.back y then 1 else 0) i = s2.pieces i
            rw [if_neg hge, Nat.add_zero]
            by_cases e : i = a
            · subst e; exact upd_self ..
            · exact upd_ne _ _ e⟩) rfl, HW3.out.2.trans ((below_drewN rfl).mono (by have := HW3.out.1.st.lt; omega))⟩
          clear d3 e4 d5 z0
          generalize W3.drewN nq = W4 at HW4 ⊢
          go_wp2_with fail
          go_roundw
          case rel => exact ⟨j + 1, by omega, by go_num, _, HW4.out.1, HS.out, HW4.out.2⟩
          case measure => simp [intOf]; omega
    · obtain rfl : j = N := by omega
      have HWd : Hid (∃ s', WAt wr kw kn n V nb s' ∧ Walked E n s s' a A L ∧ Below base w wr) := ⟨_, hWr.as (s' := { sr with N := upd sr.N a (fun x => s.turn x = 0 ∧ 0 < sr.turn x) }) (fun i hi => ⟨rfl, rfl, rfl, rfl, rfl⟩) rfl, hMr.walked (fun y hy => by
        rw [List.take_of_length_le (by rw [HLen.out]; exact Nat.le_refl _)]
        exact (HN.out.adj a y).1 hy), hbr⟩
      clear hWr hMr hbr
      go_wp2_with fail
      go_end0
      exact ⟨rfl, HWd.out⟩

end Go.Proofs.YtcfemppdeidjmacGreat.Br

namespace Go.Proofs.YtcfemppdeidjmacGreat.Br
open Go.RowKit Go.Deep
open Go.RowKit (Below)
set_option linter.unusedVariables false

variable {w w' w6 : World} {kw kn n u base : Nat} {V : Nat → Value} {nb : Nat → List Nat} {E : List (Nat × Nat)}

def nbl (E : List (Nat × Nat)) (i : Nat) : List Nat := E.flatMap fun e => if e.1 = i then [e.2] else if e.2 = i then [e.1] else []

theorem nbl_snoc (E : List (Nat × Nat)) (x y : Nat) (h : x ≠ y) (i : Nat) : nbl (E ++ [(x, y)]) i = upd (upd (nbl E) x (nbl E x ++ [y])) y (nbl E y ++ [x]) i := by
  unfold nbl
  rw [List.flatMap_append]
  by_cases h1 : i = y
  · subst h1
    rw [upd_self]
    simp [h]
  · rw [upd_ne _ _ h1]
    by_cases h2 : i = x
    · subst h2
      rw [upd_self]
      simp
    · rw [upd_ne _ _ h2]
      simp [Ne.symm h1, Ne.symm h2]
theorem nbl_len (E : List (Nat × Nat)) (i : Nat) : (nbl E i).length ≤ E.length := by
  induction E with
  | nil => exact Nat.le_refl _
  | cons e E ih =>
    unfold nbl at ih ⊢
    rw [List.flatMap_cons, List.length_append, List.length_cons]
    have : (if e.1 = i then [e.2] else if e.2 = i then [e.1] else []).length ≤ 1 := by
      split
      · simp
      · split <;> simp
    omega
theorem nbl_near (hlt : ∀ e ∈ E, e.1 < e.2 ∧ e.2 < n) (hl : E.length ≤ 200) : Near E n (nbl E) := by
  have key : ∀ a y, Adj E a y ↔ y ∈ nbl E a := fun a y => by
    unfold Adj nbl
    rw [List.mem_flatMap]
    constructor
    · rintro (h | h)
      · exact ⟨_, h, by simp⟩
      · have := hlt _ h
        simp only at this
        exact ⟨_, h, by simp only; rw [if_neg (by omega)]; simp⟩
    · rintro ⟨e, h1, h2⟩
      split at h2
      · rename_i q
        simp at h2
        subst q h2
        exact Or.inl h1
      · split at h2
        · rename_i q
          simp at h2
          subst q h2
          exact Or.inr h1
        · cases h2
  refine ⟨key, fun a y h => ?_, fun a => Nat.le_trans (nbl_len E a) hl⟩
  rcases (key a y).2 h with q | q
  · have := hlt _ q
    simp only at this
    omega
  · have := hlt _ q
    simp only at this
    omega

theorem own_same {base n : Nat} {ty : TypeId} {v : Value} {xs : List Value} {s : Nat} (h : w.ownsRow base ty s v n xs) (hb : ∀ g, v.ownBlock = some g → w'.heap[g]? = w.heap[g]?) : w'.ownsRow base ty s v n xs := by
  refine ⟨h.1, ?_⟩
  rcases h.2 with h0 | ⟨g, cap, cur, hv, h1, h2, h3⟩
  · exact Or.inl h0
  · refine Or.inr ⟨g, cap, cur, hv, h1, ?_, h3⟩
    rw [hb g (by rw [hv]; rfl)]; exact h2

theorem own_bound {base n : Nat} {ty : TypeId} {v : Value} {xs : List Value} {s k : Nat} (h : w.ownsRow base ty s v n xs) (hk : v.ownBlock = some k) : base ≤ k ∧ k < w.heap.size := by
  rcases h.2 with ⟨h0, _⟩ | ⟨g', cap, cur, hv, h1, h2, h3⟩
  · rw [h0] at hk; cases hk
  · rw [hv] at hk
    cases hk
    exact ⟨h1, (Array.getElem?_eq_some_iff.1 h2).1⟩

structure BAt (base : Nat) (w : World) (kw kn n : Nat) (V : Nat → Value) (nb : Nat → List Nat) : Prop where
  st : w.rowIs kw 162 2 (cells2 kn n 0)
  nd : ∃ g, w.rowIs kn 101 (n * 6) g ∧ ∀ i, i < n → Node V blank g i
  ne : kw ≠ kn
  bw : base ≤ kw
  bn : base ≤ kn
  own : ∀ i, i < n → w.ownsRow base 3 1 (V i) (nb i).length (ints (nb i))
  off : ∀ i, i < n → ∀ k, (V i).ownBlock = some k → k ≠ kw ∧ k ≠ kn
  apart : ∀ i j, i < n → j < n → i ≠ j → ∀ k, (V i).ownBlock = some k → (V j).ownBlock ≠ some k

theorem BAt.below (h : BAt base w kw kn n V nb) (hb : Below w.heap.size w w') : BAt base w' kw kn n V nb := by
  obtain ⟨g, h1, h2⟩ := h.nd
  exact ⟨h.st.of_block (hb.block _ h.st.lt), ⟨g, h1.of_block (hb.block _ h1.lt), h2⟩, h.ne, h.bw, h.bn, fun i hi => own_keep (h.own i hi) hb, h.off, h.apart⟩

theorem BAt.w0 (h : BAt base w kw kn n V nb) : w.cell? ⟨kw, 0, none⟩ = some (.slice (some ⟨kn, 0, none⟩) n n) := h.st.cell (i := 0) (by omega)
theorem BAt.f0 (h : BAt base w kw kn n V nb) (hu : u < n) : w.cell? ⟨kn, u * 6, none⟩ = some (V u) := by
  obtain ⟨g, h1, h2⟩ := h.nd; rw [h1.cell (i := u * 6) (by omega), (h2 u hu).near]
theorem BAt.fz (h : BAt base w kw kn n V nb) (i : Nat) : w.frozen? ⟨kn, i, none⟩ = false := by
  obtain ⟨g, h1, h2⟩ := h.nd; exact h1.frozen i

theorem BAt.push {K g1 cap x : Nat} (h : BAt base w kw kn n V nb) (hu : u < n) (hK : (nb u).length = K) (hown : w6.ownsRow base 3 1 (.slice (some ⟨g1, 0, none⟩) (K + 1) cap) (K + 1) (ints (nb u) ++ [.int .i64 ((x : Nat) : Int)])) (hg : w.grownBy w6 (V u).ownBlock) (hat : (V u).ownBlock = some g1 ∨ g1 = w.heap.size) :
    (w6.cell? ⟨kn, u * 6, none⟩ = some (V u) ∧ w6.frozen? ⟨kn, u * 6, none⟩ = false ∧ w6.cell? ⟨kw, 0, none⟩ = some (.slice (some ⟨kn, 0, none⟩) n n)) ∧ BAt base (w6.setCell ⟨kn, u * 6, none⟩ (.slice (some ⟨g1, 0, none⟩) (K + 1) cap)) kw kn n (upd V u (.slice (some ⟨g1, 0, none⟩) (K + 1) cap)) (upd nb u (nb u ++ [x])) := by
  obtain ⟨g, h1, h2⟩ := h.nd
  have e1 : w6.heap[kw]? = w.heap[kw]? := hg.block kw h.st.lt fun e => (h.off u hu kw e.symm).1 rfl
  have e2 : w6.heap[kn]? = w.heap[kn]? := hg.block kn h1.lt fun e => (h.off u hu kn e.symm).2 rfl
  have hne : g1 ≠ kw ∧ g1 ≠ kn := by
    rcases hat with e | e
    · exact h.off u hu g1 e
    · have := h.st.lt
      have := h1.lt
      omega
  have hst := h.st.of_block e1
  have hn6 := h1.of_block e2
  refine ⟨⟨by rw [hn6.cell (i := u * 6) (by omega), (h2 u hu).near], hn6.frozen _, hst.cell (i := 0) (by omega)⟩, ⟨hst.setOther (a := ⟨kn, u * 6, none⟩) (by exact h.ne) _, ⟨_, hn6.set (u * 6) _, fun i hi => ?_⟩, h.ne, h.bw, h.bn, fun i hi => ?_, fun i hi k hk => ?_, fun i j hi hj hij k hk => ?_⟩⟩
  · have q := h2 i hi
    refine ⟨?_, by simp only [if_neg (show i * 6 + 1 ≠ u * 6 by omega)]; exact q.fr, by simp only [if_neg (show i * 6 + 2 ≠ u * 6 by omega)]; exact q.least, by simp only [if_neg (show i * 6 + 3 ≠ u * 6 by omega)]; exact q.turn, by simp only [if_neg (show i * 6 + 4 ≠ u * 6 by omega)]; exact q.back, by simp only [if_neg (show i * 6 + 5 ≠ u * 6 by omega)]; exact q.pieces⟩
    by_cases e : i = u
    · subst e; simp [upd_self]
    · simp only [if_neg (show i * 6 ≠ u * 6 by omega), upd_ne _ _ e]; exact q.near
  · by_cases e : i = u
    · subst e
      rw [upd_self, upd_self, List.length_append, hK, ints_snoc]
      exact ownsRow_setCell_other hown (a := ⟨kn, i * 6, none⟩) (by simp [Value.ownBlock]; exact hne.2) _
    · rw [upd_ne _ _ e, upd_ne _ _ e]
      refine ownsRow_setCell_other (own_same (h.own i hi) fun k hk => hg.block k (own_bound (h.own i hi) hk).2 fun q => h.apart i u hi hu e k hk q.symm) (a := ⟨kn, u * 6, none⟩) (fun q => ?_) _
      exact (h.off i hi kn q).2 rfl
  · by_cases e : i = u
    · subst e; rw [upd_self] at hk; cases hk; exact hne
    · rw [upd_ne _ _ e] at hk; exact h.off i hi k hk
  · by_cases e : i = u
    · subst e
      rw [upd_self] at hk
      cases hk
      rw [upd_ne _ _ (Ne.symm hij)]
      rcases hat with q | q
      · exact h.apart i j hi hj hij _ q
      · intro r
        have r1 : g1 < w.heap.size := (own_bound (h.own j hj) r).2
        omega
    · rw [upd_ne _ _ e] at hk
      by_cases e' : j = u
      · subst e'
        rw [upd_self]
        intro r
        cases r
        rcases hat with q | q
        · exact h.apart i j hi hj hij _ hk q
        · have r1 : g1 < w.heap.size := (own_bound (h.own i hi) hk).2
          omega
      · rw [upd_ne _ _ e']
        exact h.apart i j hi hj hij k hk

theorem BAt.walker (h : BAt base w kw kn n V nb) : WAt w kw kn n V nb blank := by
  refine ⟨h.st, h.nd, h.ne, fun i hi => ?_⟩
  obtain ⟨a, c, e, hI⟩ := own_ints (h.own i hi) rfl
  refine ⟨a, c, e, hI, fun p hp => ?_⟩
  have ho := h.own i hi
  rcases ho.2 with ⟨h0, _⟩ | ⟨g', cap, cur, hv, h1, h2, h3⟩
  · rw [e, hp] at h0; cases h0
  · rw [e, hp] at hv
    cases hv
    exact h.off i hi _ (by rw [e, hp]; rfl)

end Go.Proofs.YtcfemppdeidjmacGreat.Br
