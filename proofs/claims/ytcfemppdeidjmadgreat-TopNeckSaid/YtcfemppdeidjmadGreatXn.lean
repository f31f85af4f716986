/-
  TopNeck: two unions of the edges that weigh less than the neck, and no more than it.
-/
import Derived.Test.YtcfemppdeidjmadGreatKa
import Derived.Test.YtcfemppdeidjmadGreatKb
import Derived.Test.YtcfemppdeidjmadGreatXu
namespace Go.Proofs.YtcfemppdeidjmadGreat.To
open Go.RowKit Go.Deep
open Go.RowKit (Below)
set_option linter.unusedVariables false

variable {w w' wr w0 : World} {n m i j k g gu gv : Nat} {ed : Nat → Nat × Nat} {wt : Nat → Nat} {P Q : List Nat} {F G F' Fu Fv : Nat → Prop} {hv : Nat → Int × Int × Int}

/-- What Neck is to answer. -/
def NeckOk : Prop := ∀ {w : World} {ad : Option Addr} {m c : Nat} {hv : Nat → Int × Int × Int}, Sp.HeavyAt w ad m hv → ∀ n x y : Int, Calls Tryz.prog 6 #[.int .i64 n, .slice ad m c, .int .i64 x, .int .i64 y] w fun e w' =>
  (∃ (z : Int) (t : TypeId) (v : Value), e = .returned (.tuple #[.int .i64 z, .iface t v]) ∧ Below w.heap.size w w') ∨
  (∃ n' a' b' W : Nat, e = .returned (.tuple #[.int .i64 (W : Nat), .nilIface]) ∧ Below w.heap.size w w' ∧ n = n' ∧ x = a' ∧ y = b' ∧ a' < n' ∧ b' < n' ∧ (1 ≤ n' ∧ n' ≤ 60) ∧ m ≤ 200 ∧ (∀ i, i < m → Sp.Okay n (hv i)) ∧ Neck m (Sp.edOf hv) (Sp.wtOf hv) a' b' W)

/-- Two unions. -/
def Two (w0 : World) (n : Nat) (ed : Nat → Nat × Nat) (P Q : List Nat) (w : World) (gu gv : Nat) : Prop := ∃ Fu Fv, UG w0 n ed P w gu Fu ∧ UG w0 n ed Q w gv Fv ∧ (∀ k, Fu k → ¬ Fv k) ∧ Below w0.heap.size w0 w

theorem Two.below (h : Two w0 n ed P Q w gu gv) (hb : Below w.heap.size w w') : Two w0 n ed P Q w' gu gv := by
  obtain ⟨Fu, Fv, h1, h2, h3, h4⟩ := h
  exact ⟨Fu, Fv, h1.below hb, h2.below hb, h3, h4.trans (hb.mono h4.size)⟩
theorem Two.old (h : Two w0 n ed P Q w gu gv) : Below w0.heap.size w0 w := by
  obtain ⟨Fu, Fv, h1, h2, h3, h4⟩ := h
  exact h4

theorem Two.left (h : Two w0 n ed P Q w gu gv) (k : Nat) :
    Calls Tryz.prog 8 #[.pointer (some ⟨gu, 0, none⟩), .int .i64 ((ed k).1 : Nat), .int .i64 ((ed k).2 : Nat)] w fun e w' => ∃ v, e = .returned v ∧ Two w0 n ed (P ++ [k]) Q w' gu gv := by
  obtain ⟨Fu, Fv, h1, h2, h3, h4⟩ := h
  refine (h1.join h4.size k).mono ?_
  rintro e w' ⟨v, rfl, F', h5, h6⟩
  exact ⟨v, rfl, F', Fv, h5, (h2.apart h6 h3).1, (h2.apart h6 h3).2, Un.Moves.below h4 h4.size (fun k hk => (h1.lt hk).2) h6⟩
theorem Two.right (h : Two w0 n ed P Q w gu gv) (k : Nat) :
    Calls Tryz.prog 8 #[.pointer (some ⟨gv, 0, none⟩), .int .i64 ((ed k).1 : Nat), .int .i64 ((ed k).2 : Nat)] w fun e w' => ∃ v, e = .returned v ∧ Two w0 n ed P (Q ++ [k]) w' gu gv := by
  obtain ⟨Fu, Fv, h1, h2, h3, h4⟩ := h
  refine (h2.join h4.size k).mono ?_
  rintro e w' ⟨v, rfl, F', h5, h6⟩
  have h7 := h1.apart h6 fun k hk hk2 => h3 k hk2 hk
  exact ⟨v, rfl, Fu, F', h7.1, h5, fun k hk hk2 => h7.2 k hk2 hk, Un.Moves.below h4 h4.size (fun k hk => (h2.lt hk).2) h6⟩

/-- Those of the first j that a rule takes. -/
def pk (d : Nat → Bool) (j : Nat) : List Nat := (List.range j).filter d
theorem pk_succ (d : Nat → Bool) (j : Nat) : pk d (j + 1) = if d j = true then pk d j ++ [j] else pk d j := by
  unfold pk
  rw [List.range_succ, List.filter_append]
  by_cases h : d j = true
  · simp [h]
  · simp [h]
theorem mem_pk {d : Nat → Bool} : k ∈ pk d j ↔ k < j ∧ d k = true := by simp [pk]

theorem conn_none {a b : Nat} (h : Conn [] a b) : a = b := h (fun x y => x = y) ⟨⟨fun _ => rfl, fun h => h.symm, fun h h' => h.trans h'⟩, fun e he => by cases he⟩

/-- The neck, by two unions. -/
theorem neck_two {W a b : Nat} (h : Neck m ed wt a b W) (hne : a ≠ b) : ¬ Conn ((pk (fun i => decide (wt i < W)) m).map ed) a b ∧ Conn ((pk (fun i => decide (wt i ≤ W)) m).map ed) a b := by
  refine ⟨fun hc => ?_, h.way⟩
  cases W with
  | zero =>
    have : pk (fun i => decide (wt i < 0)) m = [] := by simp [pk]
    rw [this] at hc
    exact hne (conn_none hc)
  | succ V =>
    refine h.none V (Nat.lt_succ_self V) ?_
    have : pk (fun i => decide (wt i < V + 1)) m = (List.range m).filter fun k => decide (wt k ≤ V) := by
      unfold pk
      exact List.filter_congr fun x _ => by simp [Nat.lt_succ_iff]
    rw [this] at hc
    exact hc

set_option maxRecDepth 100000 in
set_option maxHeartbeats 16000000 in
theorem top_neck (O : OneOk) (K : NeckOk) {ad : Option Addr} {c : Nat} (h : Sp.HeavyAt w ad m hv) (n a b : Int) :
    Calls Tryz.prog 3 #[.int .i64 n, .slice ad m c, .int .i64 a, .int .i64 b] w fun e w' => e = .returned (.bool true) ∧ Below w.heap.size w w' := by
  have HH : Hid (Sp.HeavyAt w ad m hv) := h
  have HK : Hid NeckOk := K
  clear h K
  go_enter Tryz.func3, Tryz.ntmps3
  go_wp2_with fail
  refine (O (w := w)).mono ?_
  rintro e w1 ⟨rfl, hb1⟩
  have HB1 : Hid (Below w.heap.size w w1) := hb1
  clear O hb1
  go_wp2_with fail
  refine (HK.out (HH.out.below HB1.out) n a b).mono ?_
  rintro e w2 (⟨z, t, v, rfl, hb2⟩ | ⟨n', a', b', W, rfl, hb2, rfl, rfl, rfl, ha, hb, hn, hm, hok, hnk⟩)
  · have HB2 : Hid (Below w.heap.size w w2) := HB1.out.trans (hb2.mono HB1.out.size)
    clear hb2
    go_wp2_with fail
    go_ret
    exact ⟨rfl, HB2.out⟩
  have HB2 : Hid (Below w.heap.size w w2) := HB1.out.trans (hb2.mono HB1.out.size)
  clear hb2
  by_cases hab : a' = b'
  · subst hab
    obtain rfl : W = 0 := hnk.one (neck_self a')
    clear hnk hok
    have t0 : ((a' : Int) == (a' : Int)) = true := beq_self_eq_true _
    go_wp2_with fail
    go_ret
    exact ⟨rfl, HB2.out⟩
  have t0 : ((a' : Int) == (b' : Int)) = false := by rw [beq_eq_false_iff_ne]; omega
  have HN : Hid ((a' < n' ∧ b' < n') ∧ (1 ≤ n' ∧ n' ≤ 60) ∧ m ≤ 200 ∧ (∀ i, i < m → Sp.Okay n' (hv i)) ∧ Neck m (Sp.edOf hv) (Sp.wtOf hv) a' b' W ∧ a' ≠ b') := ⟨⟨ha, hb⟩, hn, hm, hok, hnk, hab⟩
  clear ha hb hn hm hok hnk hab
  go_wp2_with fail
  refine (new_two HB2.out n' HN.out.2.1.1 HN.out.2.1.2 (Sp.edOf hv)).mono ?_
  rintro e w3 ⟨gu, Fu, rfl, hb3, hu, hF3⟩
  have HU : Hid (UG w n' (Sp.edOf hv) [] w3 gu Fu) := hu
  have HB3 : Hid (Below w.heap.size w w3) := HB2.out.trans (hb3.mono HB2.out.size)
  clear hb3 hu hF3
  go_wp2_with fail
  refine (new_two HB3.out n' HN.out.2.1.1 HN.out.2.1.2 (Sp.edOf hv)).mono ?_
  rintro e w4 ⟨gv, Fv, rfl, hb4, hv4, hF4⟩
  have HT : Hid (Two w n' (Sp.edOf hv) [] [] w4 gu gv) := ⟨Fu, Fv, HU.out.below hb4, hv4, fun k h1 h2 => by have := (HU.out.lt h1).1; have := hF4 k h2; omega, HB3.out.trans (hb4.mono HB3.out.size)⟩
  clear hb4 hv4 hF4 HU HB3 HB2 HB1 t0
  go_wp2_with fail
  go_loopw [16] (fun i wr => ∃ j : Nat, j ≤ m ∧ i = .int .i64 (j : Nat) ∧ Two w n' (Sp.edOf hv) (pk (fun i => decide (Sp.wtOf hv i < W)) j) (pk (fun i => decide (Sp.wtOf hv i ≤ W)) j) wr gu gv) (fun i _ => m - (intOf i).toNat)
  case atStart => exact ⟨0, Nat.zero_le _, rfl, HT.out⟩
  case round =>
    obtain ⟨j, hj, rfl, ht⟩ := hrel
    have HL : Hid (Two w n' (Sp.edOf hv) (pk (fun i => decide (Sp.wtOf hv i < W)) j) (pk (fun i => decide (Sp.wtOf hv i ≤ W)) j) wr gu gv) := ht
    clear ht HT
    have hm := HN.out.2.2.1
    by_cases hlt : j < m
    · obtain ⟨bl, o, rfl, c0, c1, c2⟩ := HH.out j hlt
      have hokj := HN.out.2.2.2.1 j hlt
      obtain ⟨x1, hx1⟩ : ∃ x1, (Sp.edOf hv j).1 = x1 := ⟨_, rfl⟩
      obtain ⟨x2, hx2⟩ : ∃ x2, (Sp.edOf hv j).2 = x2 := ⟨_, rfl⟩
      obtain ⟨wj, hwj⟩ : ∃ wj, Sp.wtOf hv j = wj := ⟨_, rfl⟩
      have e1 : (hv j).1 = (x1 : Int) := by have := hokj.1; rw [← hx1]; show _ = (((hv j).1.toNat : Nat) : Int); omega
      have e2 : (hv j).2.1 = (x2 : Int) := by have := hokj.1; have := hokj.2.1; rw [← hx2]; show _ = (((hv j).2.1.toNat : Nat) : Int); omega
      have e3 : (hv j).2.2 = (wj : Int) := by have := hokj.2.2.2.1; rw [← hwj]; show _ = (((hv j).2.2.toNat : Nat) : Int); omega
      rw [e1] at c0
      rw [e2] at c1
      rw [e3] at c2
      have HC : Hid (∀ w', Below w.heap.size w w' → w'.cell? ⟨bl, o + j * 3, none⟩ = some (.int .i64 (x1 : Int)) ∧ w'.cell? ⟨bl, o + j * 3 + 1, none⟩ = some (.int .i64 (x2 : Int)) ∧ w'.cell? ⟨bl, o + j * 3 + 2, none⟩ = some (.int .i64 (wj : Int))) := fun w' hb => ⟨Un.cell_keep hb c0, Un.cell_keep hb c1, Un.cell_keep hb c2⟩
      have HE : Hid ((Sp.edOf hv j).1 = x1 ∧ (Sp.edOf hv j).2 = x2 ∧ Sp.wtOf hv j = wj) := ⟨hx1, hx2, hwj⟩
      obtain ⟨q0, q1, q2⟩ := HC.out wr HL.out.old
      have i0 : (0 : Int) ≤ (j : Int) := by omega
      have i1 : (j : Int) < (m : Int) := by omega
      have j5 : IntKind.i64.wrap ((j : Int) + 1) = (j : Int) + 1 := by rw [IntKind.wrap_i64]; omega
      clear c0 c1 c2 e1 e2 e3 hx1 hx2 hwj hokj
      have hbd : ∀ w : World, Below w.heap.size w w.drew := fun w => (Below.refl _ _).drew
      by_cases h1 : wj < W
      · have k1 : (wj : Int) < (W : Int) := by omega
        have k2 : (wj : Int) ≤ (W : Int) := by omega
        have HJ : Hid (Calls Tryz.prog 8 #[.pointer (some ⟨gu, 0, none⟩), .int .i64 (x1 : Nat), .int .i64 (x2 : Nat)] wr.drew fun e w' => ∃ v, e = .returned v ∧ (w'.cell? ⟨bl, o + j * 3, none⟩ = some (.int .i64 (x1 : Int)) ∧ w'.cell? ⟨bl, o + j * 3 + 1, none⟩ = some (.int .i64 (x2 : Int)) ∧ w'.cell? ⟨bl, o + j * 3 + 2, none⟩ = some (.int .i64 (wj : Int))) ∧
            Hid (Two w n' (Sp.edOf hv) (pk (fun i => decide (Sp.wtOf hv i < W)) (j + 1)) (pk (fun i => decide (Sp.wtOf hv i ≤ W)) j) w' gu gv)) := by
          have := (HL.out.below (hbd wr)).left j
          rw [HE.out.1, HE.out.2.1] at this
          refine this.mono ?_
          rintro e w' ⟨v, rfl, h2⟩
          refine ⟨v, rfl, HC.out w' h2.old, ?_⟩
          show Two _ _ _ _ _ _ _ _
          rw [pk_succ, if_pos (by rw [HE.out.2.2]; exact decide_eq_true h1)]
          exact h2
        clear h1
        go_wp2_with fail
        go_region_held3 (fun V => V.cell? ⟨bl, o + j * 3, none⟩ = some (.int .i64 (x1 : Int)) ∧ V.cell? ⟨bl, o + j * 3 + 1, none⟩ = some (.int .i64 (x2 : Int))) (first | (go_keep; done) | exact ⟨q0, q1⟩)
          (first | (go_at_call 8; refine HJ.out.mono ?_; rintro e w5 ⟨v5, rfl, s5, H5⟩))
        obtain ⟨q0, q1, q2⟩ := s5
        have HJ2 : Hid (Calls Tryz.prog 8 #[.pointer (some ⟨gv, 0, none⟩), .int .i64 (x1 : Nat), .int .i64 (x2 : Nat)] w5.drew fun e w' => ∃ v, e = .returned v ∧ (w'.cell? ⟨bl, o + j * 3, none⟩ = some (.int .i64 (x1 : Int)) ∧ w'.cell? ⟨bl, o + j * 3 + 1, none⟩ = some (.int .i64 (x2 : Int))) ∧
            Hid (Two w n' (Sp.edOf hv) (pk (fun i => decide (Sp.wtOf hv i < W)) (j + 1)) (pk (fun i => decide (Sp.wtOf hv i ≤ W)) (j + 1)) w' gu gv)) := by
          have := (H5.out.below (hbd w5)).right j
          rw [HE.out.1, HE.out.2.1] at this
          refine this.mono ?_
          rintro e w' ⟨v, rfl, h2⟩
          have hc := HC.out w' h2.old
          refine ⟨v, rfl, ⟨hc.1, hc.2.1⟩, ?_⟩
          show Two _ _ _ _ _ _ _ _
          rw [pk_succ (fun i => decide (Sp.wtOf hv i ≤ W)), if_pos (by rw [HE.out.2.2]; exact decide_eq_true (by omega))]
          exact h2
        go_wp2_with fail
        go_region_held3 (fun V => V.cell? ⟨bl, o + j * 3, none⟩ = some (.int .i64 (x1 : Int)) ∧ V.cell? ⟨bl, o + j * 3 + 1, none⟩ = some (.int .i64 (x2 : Int))) (first | (go_keep; done) | exact ⟨q0, q1⟩)
          (first | (go_at_call 8; refine HJ2.out.mono ?_; rintro e w6 ⟨v6, rfl, s6, H6⟩))
        go_wp2_with fail
        go_roundw
        case rel => exact ⟨j + 1, by omega, by go_num, H6.out⟩
        case measure => simp [intOf]; omega
      · by_cases h2 : wj ≤ W
        · have k1 : ¬ (wj : Int) < (W : Int) := by omega
          have k2 : (wj : Int) ≤ (W : Int) := by omega
          have HJ2 : Hid (Calls Tryz.prog 8 #[.pointer (some ⟨gv, 0, none⟩), .int .i64 (x1 : Nat), .int .i64 (x2 : Nat)] wr.drew fun e w' => ∃ v, e = .returned v ∧ (w'.cell? ⟨bl, o + j * 3, none⟩ = some (.int .i64 (x1 : Int)) ∧ w'.cell? ⟨bl, o + j * 3 + 1, none⟩ = some (.int .i64 (x2 : Int))) ∧
              Hid (Two w n' (Sp.edOf hv) (pk (fun i => decide (Sp.wtOf hv i < W)) (j + 1)) (pk (fun i => decide (Sp.wtOf hv i ≤ W)) (j + 1)) w' gu gv)) := by
            have := (HL.out.below (hbd wr)).right j
            rw [HE.out.1, HE.out.2.1] at this
            refine this.mono ?_
            rintro e w' ⟨v, rfl, h3⟩
            have hc := HC.out w' h3.old
            refine ⟨v, rfl, ⟨hc.1, hc.2.1⟩, ?_⟩
            show Two _ _ _ _ _ _ _ _
            rw [pk_succ, pk_succ (fun i => decide (Sp.wtOf hv i ≤ W)), if_neg (by rw [HE.out.2.2]; simpa using h1), if_pos (by rw [HE.out.2.2]; exact decide_eq_true h2)]
            exact h3
          clear h1 h2
          go_wp2_with fail
          go_region_held3 (fun V => V.cell? ⟨bl, o + j * 3, none⟩ = some (.int .i64 (x1 : Int)) ∧ V.cell? ⟨bl, o + j * 3 + 1, none⟩ = some (.int .i64 (x2 : Int))) (first | (go_keep; done) | exact ⟨q0, q1⟩)
            (first | (go_at_call 8; refine HJ2.out.mono ?_; rintro e w6 ⟨v6, rfl, s6, H6⟩))
          go_wp2_with fail
          go_roundw
          case rel => exact ⟨j + 1, by omega, by go_num, H6.out⟩
          case measure => simp [intOf]; omega
        · have k1 : ¬ (wj : Int) < (W : Int) := by omega
          have k2 : ¬ (wj : Int) ≤ (W : Int) := by omega
          have H6 : Hid (Two w n' (Sp.edOf hv) (pk (fun i => decide (Sp.wtOf hv i < W)) (j + 1)) (pk (fun i => decide (Sp.wtOf hv i ≤ W)) (j + 1)) wr gu gv) := by
            show Two _ _ _ _ _ _ _ _
            rw [pk_succ, pk_succ (fun i => decide (Sp.wtOf hv i ≤ W)), if_neg (by rw [HE.out.2.2]; simpa using h1), if_neg (by rw [HE.out.2.2]; simpa using h2)]
            exact HL.out
          clear h1 h2
          go_wp2_with fail
          go_roundw
          case rel => exact ⟨j + 1, by omega, by go_num, H6.out⟩
          case measure => simp [intOf]; omega
    · obtain rfl : j = m := by omega
      have i1 : ¬ (j : Int) < (j : Int) := by omega
      obtain ⟨Fu, Fv, hu, hv', hd, hb⟩ := HL.out
      have hin : ∀ d, ∀ k ∈ pk d j, (Sp.edOf hv k).1 < n' ∧ (Sp.edOf hv k).2 < n' := fun d k hk => by
        have := HN.out.2.2.2.1 k (mem_pk.1 hk).1
        unfold Sp.Okay at this
        exact ⟨by show (hv k).1.toNat < n'; omega, by show (hv k).2.1.toNat < n'; omega⟩
      have hnk := neck_two HN.out.2.2.2.2.1 HN.out.2.2.2.2.2
      have HS1 : Hid (Calls Tryz.prog 9 #[.pointer (some ⟨gu, 0, none⟩), .int .i64 (a' : Nat), .int .i64 (b' : Nat)] wr fun e w' => e = .returned (.tuple #[.bool false, .nilIface]) ∧ Below wr.heap.size wr w') := hu.same (hin _) HN.out.1.1 HN.out.1.2 false ⟨fun e => (by cases e), fun e => absurd e hnk.1⟩
      have HS2 : Hid (∀ w', Below wr.heap.size wr w' → Calls Tryz.prog 9 #[.pointer (some ⟨gv, 0, none⟩), .int .i64 (a' : Nat), .int .i64 (b' : Nat)] w' fun e w'' => e = .returned (.tuple #[.bool true, .nilIface]) ∧ Below w'.heap.size w' w'') := fun w' hb' => (hv'.below hb').same (hin _) HN.out.1.1 HN.out.1.2 true ⟨fun _ => hnk.2, fun _ => rfl⟩
      have HB : Hid (Below w.heap.size w wr) := hb
      clear hu hv' hd hb hin hnk hlt hj hm HL
      go_wp2_with fail
      refine HS1.out.mono ?_
      rintro e w5 ⟨rfl, hb5⟩
      have HB5 : Hid (Below wr.heap.size wr w5) := hb5
      clear hb5
      go_wp2_with fail
      refine (HS2.out w5 HB5.out).mono ?_
      rintro e w6 ⟨rfl, hb6⟩
      have HB6 : Hid (Below w.heap.size w w6) := (HB.out.trans (HB5.out.mono HB.out.size)).trans (hb6.mono (Nat.le_trans HB.out.size HB5.out.size))
      clear hb6
      go_wp2_with fail
      go_ret
      exact ⟨rfl, HB6.out⟩

end Go.Proofs.YtcfemppdeidjmadGreat.To
