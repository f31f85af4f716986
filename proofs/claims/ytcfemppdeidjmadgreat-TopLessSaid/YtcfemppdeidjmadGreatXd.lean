/-
  TopLess: all edges of a node are dropped.
-/
import Derived.Test.YtcfemppdeidjmadGreatXc
namespace Go.Proofs.YtcfemppdeidjmadGreat.To
set_option linter.unusedSectionVars false
variable [Inhabited Zed] [Inhabited (PLift ((default : Zed).n ≤ 0))]
open Go.RowKit Go.Deep
open Go.RowKit (Below)
set_option linter.unusedVariables false

variable {w w' wr w0 : World} {G : Gr.GPl} {A E P Q : List (Nat × Nat)} {e : Nat × Nat} {m n i j N c : Nat} {ad : Option Addr} {p q : Nat → Nat} {f : Nat → Int × Int × Int}

/-- The edges that are left when the first i were looked at. -/
def rest (A : List (Nat × Nat)) (a i : Nat) : List (Nat × Nat) := Br.without (A.take i) a ++ A.drop i

theorem rest_start (A : List (Nat × Nat)) (a : Nat) : rest A a 0 = A := rfl
theorem rest_end (A : List (Nat × Nat)) (a : Nat) : rest A a A.length = Br.without A a := by unfold rest; simp
theorem rest_mid (A : List (Nat × Nat)) (a : Nat) (hi : i < A.length) : rest A a i = Br.without (A.take i) a ++ A.getD i (0, 0) :: A.drop (i + 1) := by
  unfold rest
  rw [List.drop_eq_getElem_cons hi, List.getD_eq_getElem?_getD, List.getElem?_eq_getElem hi]
  rfl
theorem rest_keeps (A : List (Nat × Nat)) (a : Nat) (hi : i < A.length) (h : (A.getD i (0, 0)).1 ≠ a ∧ (A.getD i (0, 0)).2 ≠ a) : rest A a (i + 1) = rest A a i := by
  rw [rest_mid A a hi]
  unfold rest Br.without
  rw [List.take_add_one, List.getElem?_eq_getElem hi, List.filter_append]
  have e : A.getD i (0, 0) = A[i] := by rw [List.getD_eq_getElem?_getD, List.getElem?_eq_getElem hi]; rfl
  rw [e] at h ⊢
  simp [h]
theorem rest_drops (A : List (Nat × Nat)) (a : Nat) (hi : i < A.length) (h : ¬ ((A.getD i (0, 0)).1 ≠ a ∧ (A.getD i (0, 0)).2 ≠ a)) : rest A a (i + 1) = Br.without (A.take i) a ++ A.drop (i + 1) := by
  unfold rest Br.without
  rw [List.take_add_one, List.getElem?_eq_getElem hi, List.filter_append]
  have e : A.getD i (0, 0) = A[i] := by rw [List.getD_eq_getElem?_getD, List.getElem?_eq_getElem hi]; rfl
  rw [e] at h
  simp [h]

/-- An edge of the node is dropped. -/
theorem dr_less {a : Nat} (h : Dr w0 G (rest A a i) w) (hi : i < A.length) (ht : ¬ ((A.getD i (0, 0)).1 ≠ a ∧ (A.getD i (0, 0)).2 ≠ a)) :
    Calls Tryz.prog 14 #[.pointer (some ⟨G.g, 0, none⟩), .int .i64 ((A.getD i (0, 0)).1 : Nat), .int .i64 ((A.getD i (0, 0)).2 : Nat)] w fun x w' => x = .returned .nilIface ∧ Dr w0 G (rest A a (i + 1)) w' ∧ Gr.Turns (Gr.GFoot G) w w' := by
  have hm := rest_mid A a hi
  refine (dr_drop h (by rw [hm]; simp)).mono ?_
  rintro x w' ⟨rfl, P, Q, h1, h2, h3⟩
  refine ⟨rfl, ?_, h3⟩
  have hu := h.up
  have e1 : P ++ Q = Br.without (A.take i) a ++ A.drop (i + 1) := by
    have hu1 := hu
    have hu2 := hu
    rw [h1] at hu1
    rw [hm] at hu2
    rw [← Br.erase_mid hu1, ← Br.erase_mid hu2, ← h1, hm]
  rw [rest_drops A a hi ht, ← e1]
  exact h2

theorem take_in {L : List Nat} {x : Nat} (h : j < L.length) : (x ∈ L.take (j + 1)) ↔ (x ∈ L.take j ∨ L.getD j 0 = x) := by
  rw [List.take_add_one, List.mem_append, List.getElem?_eq_getElem h, List.getD_eq_getElem?_getD, List.getElem?_eq_getElem h]
  simp [eq_comm]

theorem cnt_alone {n a : Nat} (hq : Rest (Br.without A a) q) (ha : a < n) : cnt n (fun x => decide (q x = q a)) = 1 := by
  have hqa : q a = a := Br.without_alone hq (Or.inr ((conn_eqv _).symm (hq.conn a)))
  have h1 : cnt n (fun x => decide (q x = q a)) = cnt n (fun x => decide (x = a)) := cnt_congr n fun x hx => by
    rw [hqa, Bool.eq_iff_iff, decide_eq_true_iff, decide_eq_true_iff]
    exact ⟨fun e => Br.without_alone hq (Or.inl e), fun e => by rw [e, hqa]⟩
  rw [h1]
  rw [cnt_one, if_pos ha]

set_option maxRecDepth 100000 in
set_option maxHeartbeats 32000000 in
theorem top_less (O : OneOk) {c : Nat} (h : As.EvAt w ad m f) (n k : Int) :
    Calls Tryz.prog 4 #[.int .i64 n, .slice ad m c, .int .i64 k] w fun e w' => e = .returned (.bool true) ∧ Below w.heap.size w w' := by
  have HH : Hid (As.EvAt w ad m f) := h
  clear h
  go_enter Tryz.func4, Tryz.ntmps4
  go_wp2_with fail
  refine (O (w := w)).mono ?_
  rintro e w1 ⟨rfl, hb1⟩
  have HB1 : Hid (Below w.heap.size w w1) := hb1
  clear O hb1
  go_wp2_with fail
  by_cases hn : n < 1 ∨ 60 < n
  · refine (drawn_no n hn).mono ?_
    rintro e w2 ⟨rfl, rfl⟩
    clear hn
    go_wp2_with fail
    go_ret
    exact ⟨rfl, HB1.out⟩
  obtain ⟨n, rfl⟩ := Int.eq_ofNat_of_zero_le (show 0 ≤ n by omega)
  refine (drawn_any (HH.out.below HB1.out) n (by omega) (by omega)).mono ?_
  clear hn
  rintro e w2 ⟨G, rfl, rfl, A, hd, hl⟩
  have H2 : Hid (Dr w1 G A w2 ∧ A.length ≤ 120) := ⟨hd, hl⟩
  clear hd hl HH
  go_wp2_with fail
  refine (dr_edges H2.out.1).mono ?_
  rintro e w3 ⟨al, ca, rfl, hb3, hE⟩
  obtain ⟨N, hN⟩ : ∃ N, A.length = N := ⟨_, rfl⟩
  rw [hN] at hE ⊢
  have H3 : Hid (Dr w1 G A w3 ∧ Li G w3 al N ca A) := ⟨H2.out.1.step hb3, hE⟩
  have HN : Hid (A.length = N ∧ N ≤ 120) := ⟨hN, hN ▸ H2.out.2⟩
  clear hb3 hE hN H2
  have HE : Hid (∀ w', Below w1.heap.size w1 w' → Below w.heap.size w w') := fun w' h => HB1.out.trans (h.mono HB1.out.size)
  clear HB1
  have HAm : Hid (Among G.n A) := show Among _ _ from fun e he => by have := H3.out.1.among e he; exact ⟨by omega, this.2⟩
  obtain ⟨p, hp⟩ := rest_of A
  have HP : Hid (Rest A p) := hp
  clear hp
  go_wp2_with fail
  refine (Br.joints_ok (c := ca) H3.out.2.eg (H3.out.1.valid HN.out.1)).mono ?_
  rintro e w4 ⟨v, L, rfl, hjts, hown, hb4⟩
  rw [fn_edges HN.out.1] at hjts
  obtain ⟨aj, cj, rfl, hLj⟩ := Br.own_ints hown rfl
  obtain ⟨M, hM⟩ : ∃ M, L.length = M := ⟨_, rfl⟩
  rw [hM] at hLj ⊢
  have H4 : Hid (Dr w1 G A w4 ∧ Li G w4 al N ca A ∧ Br.IntsAt w4 aj M L) := ⟨H3.out.1.step hb4, H3.out.2.below hb4, hLj⟩
  have HJ : Hid (Br.Jts G.n A L ∧ L.length = M ∧ M ≤ 60) := ⟨hjts, hM, by
    obtain ⟨t, _, e⟩ := hjts
    have h1 : L.length ≤ G.n := by rw [e]; exact Nat.le_trans (List.length_filter_le _ _) (by simp)
    have := H3.out.1.n60
    omega⟩
  clear hjts hown hb4 hM hLj H3
  by_cases hk : ¬ (0 ≤ k ∧ k < (G.n : Int))
  · have HB4 : Hid (Below w.heap.size w w4) := HE.out _ H4.out.1.old
    by_cases k0 : k < 0
    · clear hk
      go_wp2_with fail
      go_ret
      exact ⟨rfl, HB4.out⟩
    · have k1 : (G.n : Int) ≤ k := by omega
      clear hk
      go_wp2_with fail
      go_ret
      exact ⟨rfl, HB4.out⟩
  obtain ⟨a, rfl⟩ := Int.eq_ofNat_of_zero_le (show 0 ≤ k by omega)
  have HA : Hid (a < G.n) := show _ < _ by omega
  have k0 : ¬ (a : Int) < 0 := by omega
  have k1 : ¬ (G.n : Int) ≤ (a : Int) := by omega
  clear hk
  go_wp2_with fail
  clear k0 k1
  go_loopw [13, 14] (fun is i wr => ∃ j : Nat, j ≤ M ∧ i = .int .i64 (j : Nat) ∧ is = .bool (decide (a ∈ L.take j)) ∧ Below w4.heap.size w4 wr) (fun _ i _ => M - (intOf i).toNat)
  case atStart => exact ⟨0, Nat.zero_le _, rfl, by simp, Below.refl _ _⟩
  case round =>
    obtain ⟨j, hj, rfl, rfl, hb⟩ := hrel
    have HL : Hid (Dr w1 G A wr ∧ Li G wr al N ca A ∧ Br.IntsAt wr aj M L) := ⟨H4.out.1.step hb, H4.out.2.1.below hb, H4.out.2.2.below hb⟩
    have HB : Hid (Below w4.heap.size w4 wr) := hb
    have hm := HJ.out.2.2
    clear hb
    by_cases hlt : j < M
    · have hjl : j < L.length := by rw [HJ.out.2.1]; exact hlt
      have htm := take_in (x := a) hjl
      obtain ⟨bb, o, rfl, y0⟩ := HL.out.2.2.cell j hlt
      obtain ⟨z, hz⟩ : ∃ z, L.getD j 0 = z := ⟨_, rfl⟩
      rw [hz] at y0 htm
      have i0 : (0 : Int) ≤ (j : Int) := by omega
      have i1 : (j : Int) < (M : Int) := by omega
      have j5 : IntKind.i64.wrap ((j : Int) + 1) = (j : Int) + 1 := by rw [IntKind.wrap_i64]; omega
      clear hz hm
      by_cases hin : a ∈ L.take j
      · have HT : Hid (decide (a ∈ L.take (j + 1)) = true) := decide_eq_true (htm.2 (Or.inl hin))
        rw [decide_eq_true hin]
        clear hin htm
        go_wp2_with fail
        go_roundw
        case rel => exact ⟨j + 1, by omega, by go_num, by rw [HT.out], HB.out⟩
        case measure => simp [intOf]; omega
      · rw [decide_eq_false hin]
        by_cases hz : z = a
        · have HT : Hid (decide (a ∈ L.take (j + 1)) = true) := decide_eq_true (htm.2 (Or.inr hz))
          have s0 : ((z : Int) == (a : Int)) = true := by rw [hz]; exact beq_self_eq_true _
          clear hin htm hz
          go_wp2_with fail
          go_roundw
          case rel => exact ⟨j + 1, by omega, by go_num, by rw [HT.out], HB.out⟩
          case measure => simp [intOf]; omega
        · have HT : Hid (decide (a ∈ L.take (j + 1)) = false) := decide_eq_false (fun q => (htm.1 q).elim hin hz)
          have s0 : ((z : Int) == (a : Int)) = false := by rw [beq_eq_false_iff_ne]; omega
          clear hin htm hz
          go_wp2_with fail
          go_roundw
          case rel => exact ⟨j + 1, by omega, by go_num, by rw [HT.out], HB.out⟩
          case measure => simp [intOf]; omega
    · obtain rfl : j = M := by omega
      rw [show L.take j = L by rw [List.take_of_length_le (by rw [HJ.out.2.1]; exact Nat.le_refl _)]]
      have i1 : ¬ (j : Int) < (j : Int) := by omega
      obtain ⟨is, his⟩ : ∃ is, decide (a ∈ L) = is := ⟨_, rfl⟩
      rw [his]
      have HI : Hid (is = true ↔ Br.Joint A a) := show _ ↔ _ by
        obtain ⟨t, h1, h2⟩ := HJ.out.1
        rw [← his, decide_eq_true_iff, h2, List.mem_filter, h1 a HA.out]
        exact ⟨fun q => q.2, fun q => ⟨List.mem_range.2 HA.out, q⟩⟩
      clear his hlt hj hm H4 HB
      obtain ⟨K, hK⟩ : ∃ K, partsOf G.n p = K := ⟨_, rfl⟩
      go_wp2_with fail
      refine (dr_parts HL.out.1 HP.out K hK).mono ?_
      rintro e w5 ⟨rfl, hb5⟩
      have H5 : Hid (Dr w1 G A w5 ∧ Li G w5 al N ca A) := ⟨HL.out.1.step hb5, HL.out.2.1.below hb5⟩
      have HKp : Hid (partsOf G.n p = K) := hK
      clear hb5 hK HL i1
      go_wp2_with fail
      go_loopw [16] (fun i wr => ∃ j : Nat, j ≤ N ∧ i = .int .i64 (j : Nat) ∧ Dr w1 G (rest A a j) wr ∧ Li G wr al N ca A) (fun i _ => N - (intOf i).toNat)
      case atStart => exact ⟨0, Nat.zero_le _, rfl, by rw [rest_start]; exact H5.out.1, H5.out.2⟩
      case round =>
        obtain ⟨i, hi, rfl, hd, hli⟩ := hrel
        have HL : Hid (Dr w1 G (rest A a i) wr ∧ Li G wr al N ca A) := ⟨hd, hli⟩
        have hm := HN.out.2
        clear hd hli H5
        by_cases hlt : i < N
        · have hil : i < A.length := by rw [HN.out.1]; exact hlt
          obtain ⟨b, rfl, c0, c1⟩ := HL.out.2.at_.cell i (by rw [HN.out.1]; exact hlt)
          obtain ⟨x0, hx0⟩ : ∃ x0, (A.getD i (0, 0)).1 = x0 := ⟨_, rfl⟩
          obtain ⟨x1, hx1⟩ : ∃ x1, (A.getD i (0, 0)).2 = x1 := ⟨_, rfl⟩
          rw [hx0] at c0
          rw [hx1] at c1
          have HC : Hid (∀ w', Li G w' (some ⟨b, 0, none⟩) N ca A → w'.cell? ⟨b, i * 2, none⟩ = some (.int .i64 (x0 : Int)) ∧ w'.cell? ⟨b, i * 2 + 1, none⟩ = some (.int .i64 (x1 : Int))) := fun w' h => by
            obtain ⟨b', e, q0, q1⟩ := h.at_.cell i hil
            cases e
            rw [hx0] at q0
            rw [hx1] at q1
            exact ⟨q0, q1⟩
          have HD : Hid (∀ w', Dr w1 G (rest A a i) w' → Li G w' (some ⟨b, 0, none⟩) N ca A → (x0 = a ∨ x1 = a) → Calls Tryz.prog 14 #[.pointer (some ⟨G.g, 0, none⟩), .int .i64 (x0 : Int), .int .i64 (x1 : Int)] w' fun e w'' => e = .returned .nilIface ∧ (w''.cell? ⟨b, i * 2, none⟩ = some (.int .i64 (x0 : Int)) ∧ w''.cell? ⟨b, i * 2 + 1, none⟩ = some (.int .i64 (x1 : Int))) ∧ Hid (Dr w1 G (rest A a (i + 1)) w'' ∧ Li G w'' (some ⟨b, 0, none⟩) N ca A)) := fun w' h1 h2 h3 => by
            have := dr_less h1 hil (by rw [hx0, hx1]; omega)
            rw [hx0, hx1] at this
            refine this.mono ?_
            rintro e w'' ⟨rfl, h4, h5⟩
            exact ⟨rfl, HC.out _ (h2.turn h5), h4, h2.turn h5⟩
          have HS : Hid (¬ (x0 = a ∨ x1 = a) → rest A a (i + 1) = rest A a i) := fun h => rest_keeps A a hil (by rw [hx0, hx1]; omega)
          have i0 : (0 : Int) ≤ (i : Int) := by omega
          have i1 : (i : Int) < (N : Int) := by omega
          have j5 : IntKind.i64.wrap ((i : Int) + 1) = (i : Int) + 1 := by rw [IntKind.wrap_i64]; omega
          have hbd : Below wr.heap.size wr wr.drew := (Below.refl _ _).drew
          clear hx0 hx1 hm
          by_cases h0 : x0 = a
          · have s0 : ((x0 : Int) == (a : Int)) = true := by rw [h0]; exact beq_self_eq_true _
            have HG := HD.out wr.drew (HL.out.1.step hbd) (HL.out.2.below hbd) (Or.inl h0)
            have hS0 : wr.drew.cell? ⟨b, i * 2, none⟩ = some (.int .i64 (x0 : Int)) ∧ wr.drew.cell? ⟨b, i * 2 + 1, none⟩ = some (.int .i64 (x1 : Int)) := ⟨c0, c1⟩
            clear h0
            go_wp2_with fail
            refine wp_region_noPanic ?_
            refine wp_region_held_drew (S := fun V => V.cell? ⟨b, i * 2, none⟩ = some (.int .i64 (x0 : Int)) ∧ V.cell? ⟨b, i * 2 + 1, none⟩ = some (.int .i64 (x1 : Int))) (by kernel_rfl) hS0 (fun hHeld => ?_)
            refine wpAnyH_take (i := 0) (oi := { dst := some 76, op := Go.Op.move (Go.Operand.tmp 10), type := 42, pos := _, after := #[], guard := none }) (v := ?va1) rfl (by kernel_rfl) (by kernel_rfl) (by kernel_rfl) (fun _ _ _ h => h) (Or.inl ⟨by rfl, ?ya1⟩) (by assumption) ?_
            case ya1 =>
              intro w hSw
              (try dsimp only at hSw)
              go_simp
              (try with_reducible rfl)
            simp only [Act.put, List.setIfInBounds_toArray, List.set_cons_zero, List.set_cons_succ]
            refine wpAnyH_take (i := 1) (oi := { dst := some 77, op := Go.Op.move (Go.Operand.tmp 16), type := 3, pos := _, after := #[], guard := none }) (v := ?va2) rfl (by kernel_rfl) (by kernel_rfl) (by kernel_rfl) (fun _ _ _ h => h) (Or.inl ⟨by rfl, ?ya2⟩) (by assumption) ?_
            case ya2 =>
              intro w hSw
              (try dsimp only at hSw)
              go_simp
              (try with_reducible rfl)
            simp only [Act.put, List.setIfInBounds_toArray, List.set_cons_zero, List.set_cons_succ]
            refine wpAnyH_take (i := 2) (oi := { dst := some 78, op := Go.Op.indexAddr 42 (Go.Operand.tmp 76) (Go.Operand.tmp 77), type := 0, pos := _, after := #[{ on := 0, ground := Go.Ground.data }, { on := 1, ground := Go.Ground.data }], guard := none }) (v := ?va3) rfl (by kernel_rfl) (by kernel_rfl) (by kernel_rfl) (fun _ _ _ h => h) (Or.inl ⟨by rfl, ?ya3⟩) (by assumption) ?_
            case ya3 =>
              intro w hSw
              (try dsimp only at hSw)
              go_simp
              (try with_reducible rfl)
            simp only [Act.put, List.setIfInBounds_toArray, List.set_cons_zero, List.set_cons_succ]
            refine wpAnyH_take (i := 3) (oi := { dst := some 79, op := Go.Op.fieldAddr 32 (Go.Operand.tmp 78) 0, type := 0, pos := _, after := #[{ on := 2, ground := Go.Ground.data }], guard := none }) (v := ?va4) rfl (by kernel_rfl) (by kernel_rfl) (by kernel_rfl) (fun _ _ _ h => h) (Or.inl ⟨by rfl, ?ya4⟩) (by assumption) ?_
            case ya4 =>
              intro w hSw
              (try dsimp only at hSw)
              go_simp
              (try with_reducible rfl)
            simp only [Act.put, List.setIfInBounds_toArray, List.set_cons_zero, List.set_cons_succ]
            refine wpAnyH_take (i := 4) (oi := { dst := some 80, op := Go.Op.load 3 (Go.Operand.tmp 79), type := 3, pos := _, after := #[{ on := 3, ground := Go.Ground.data }], guard := none }) (v := ?va5) rfl (by kernel_rfl) (by kernel_rfl) (by kernel_rfl) (fun _ _ _ h => h) (Or.inl ⟨by rfl, ?ya5⟩) (by assumption) ?_
            case ya5 =>
              intro w hSw
              (try dsimp only at hSw)
              go_simp
              (try with_reducible rfl)
            simp only [Act.put, List.setIfInBounds_toArray, List.set_cons_zero, List.set_cons_succ]
            refine wpAnyH_take (i := 5) (oi := { dst := some 81, op := Go.Op.move (Go.Operand.tmp 2), type := 3, pos := _, after := #[], guard := none }) (v := ?va6) rfl (by kernel_rfl) (by kernel_rfl) (by kernel_rfl) (fun _ _ _ h => h) (Or.inl ⟨by rfl, ?ya6⟩) (by assumption) ?_
            case ya6 =>
              intro w hSw
              (try dsimp only at hSw)
              go_simp
              (try with_reducible rfl)
            simp only [Act.put, List.setIfInBounds_toArray, List.set_cons_zero, List.set_cons_succ]
            refine wpAnyH_take (i := 6) (oi := { dst := some 82, op := Go.Op.binOp Go.BinOp.eql 3 (Go.Operand.tmp 80) (Go.Operand.tmp 81) 3, type := 4, pos := _, after := #[{ on := 4, ground := Go.Ground.data }, { on := 5, ground := Go.Ground.data }], guard := none }) (v := ?va7) rfl (by kernel_rfl) (by kernel_rfl) (by kernel_rfl) (fun _ _ _ h => h) (Or.inl ⟨by rfl, ?ya7⟩) (by assumption) ?_
            case ya7 =>
              intro w hSw
              (try dsimp only at hSw)
              go_simp
              (try with_reducible rfl)
            simp only [Act.put, List.setIfInBounds_toArray, List.set_cons_zero, List.set_cons_succ]
            refine wpAnyH_take (i := 7) (oi := { dst := some 83, op := Go.Op.move (Go.Operand.tmp 82), type := 4, pos := _, after := #[{ on := 6, ground := Go.Ground.data }], guard := none }) (v := ?va8) rfl (by kernel_rfl) (by kernel_rfl) (by kernel_rfl) (fun _ _ _ h => h) (Or.inl ⟨by rfl, ?ya8⟩) (by assumption) ?_
            case ya8 =>
              intro w hSw
              (try dsimp only at hSw)
              go_simp
              (try with_reducible rfl)
            simp only [Act.put, List.setIfInBounds_toArray, List.set_cons_zero, List.set_cons_succ]
            refine wpAnyH_take (i := 8) (oi := { dst := some 84, op := Go.Op.move (Go.Operand.tmp 10), type := 42, pos := _, after := #[{ on := 7, ground := Go.Ground.guard }], guard := some (7, false) }) (v := undef) rfl (by kernel_rfl) (by kernel_rfl) (by kernel_rfl) (fun _ _ _ h => h) (Or.inr ⟨by rfl, rfl⟩) (by assumption) ?_
            simp only [Act.put, List.setIfInBounds_toArray, List.set_cons_zero, List.set_cons_succ]
            refine wpAnyH_take (i := 9) (oi := { dst := some 85, op := Go.Op.move (Go.Operand.tmp 16), type := 3, pos := _, after := #[{ on := 7, ground := Go.Ground.guard }], guard := some (7, false) }) (v := undef) rfl (by kernel_rfl) (by kernel_rfl) (by kernel_rfl) (fun _ _ _ h => h) (Or.inr ⟨by rfl, rfl⟩) (by assumption) ?_
            simp only [Act.put, List.setIfInBounds_toArray, List.set_cons_zero, List.set_cons_succ]
            refine wpAnyH_take (i := 10) (oi := { dst := some 86, op := Go.Op.indexAddr 42 (Go.Operand.tmp 84) (Go.Operand.tmp 85), type := 0, pos := _, after := #[{ on := 8, ground := Go.Ground.data }, { on := 9, ground := Go.Ground.data }, { on := 7, ground := Go.Ground.guard }], guard := some (7, false) }) (v := undef) rfl (by kernel_rfl) (by kernel_rfl) (by kernel_rfl) (fun _ _ _ h => h) (Or.inr ⟨by rfl, rfl⟩) (by assumption) ?_
            simp only [Act.put, List.setIfInBounds_toArray, List.set_cons_zero, List.set_cons_succ]
            refine wpAnyH_take (i := 11) (oi := { dst := some 87, op := Go.Op.fieldAddr 32 (Go.Operand.tmp 86) 1, type := 0, pos := _, after := #[{ on := 10, ground := Go.Ground.data }, { on := 7, ground := Go.Ground.guard }], guard := some (7, false) }) (v := undef) rfl (by kernel_rfl) (by kernel_rfl) (by kernel_rfl) (fun _ _ _ h => h) (Or.inr ⟨by rfl, rfl⟩) (by assumption) ?_
            simp only [Act.put, List.setIfInBounds_toArray, List.set_cons_zero, List.set_cons_succ]
            refine wpAnyH_take (i := 12) (oi := { dst := some 88, op := Go.Op.load 3 (Go.Operand.tmp 87), type := 3, pos := _, after := #[{ on := 11, ground := Go.Ground.data }, { on := 7, ground := Go.Ground.guard }], guard := some (7, false) }) (v := undef) rfl (by kernel_rfl) (by kernel_rfl) (by kernel_rfl) (fun _ _ _ h => h) (Or.inr ⟨by rfl, rfl⟩) (by assumption) ?_
            simp only [Act.put, List.setIfInBounds_toArray, List.set_cons_zero, List.set_cons_succ]
            refine wpAnyH_take (i := 13) (oi := { dst := some 89, op := Go.Op.move (Go.Operand.tmp 2), type := 3, pos := _, after := #[{ on := 7, ground := Go.Ground.guard }], guard := some (7, false) }) (v := undef) rfl (by kernel_rfl) (by kernel_rfl) (by kernel_rfl) (fun _ _ _ h => h) (Or.inr ⟨by rfl, rfl⟩) (by assumption) ?_
            simp only [Act.put, List.setIfInBounds_toArray, List.set_cons_zero, List.set_cons_succ]
            refine wpAnyH_take (i := 14) (oi := { dst := some 90, op := Go.Op.binOp Go.BinOp.eql 3 (Go.Operand.tmp 88) (Go.Operand.tmp 89) 3, type := 4, pos := _, after := #[{ on := 12, ground := Go.Ground.data }, { on := 13, ground := Go.Ground.data }, { on := 7, ground := Go.Ground.guard }], guard := some (7, false) }) (v := undef) rfl (by kernel_rfl) (by kernel_rfl) (by kernel_rfl) (fun _ _ _ h => h) (Or.inr ⟨by rfl, rfl⟩) (by assumption) ?_
            simp only [Act.put, List.setIfInBounds_toArray, List.set_cons_zero, List.set_cons_succ]
            refine wpAnyH_take (i := 15) (oi := { dst := some 91, op := Go.Op.pick (Go.Operand.tmp 83) (Go.Operand.const (Go.Value.bool true)) (Go.Operand.tmp 90), type := 4, pos := _, after := #[{ on := 7, ground := Go.Ground.data }, { on := 14, ground := Go.Ground.data }], guard := none }) (v := ?va9) rfl (by kernel_rfl) (by kernel_rfl) (by kernel_rfl) (fun _ _ _ h => h) (Or.inl ⟨by rfl, ?ya9⟩) (by assumption) ?_
            case ya9 =>
              intro w hSw
              (try dsimp only at hSw)
              go_simp
              (try with_reducible rfl)
            simp only [Act.put, List.setIfInBounds_toArray, List.set_cons_zero, List.set_cons_succ]
            refine wpAnyH_take (i := 16) (oi := { dst := some 92, op := Go.Op.move (Go.Operand.tmp 91), type := 4, pos := _, after := #[{ on := 15, ground := Go.Ground.data }, { on := 7, ground := Go.Ground.chain }], guard := none }) (v := ?va10) rfl (by kernel_rfl) (by kernel_rfl) (by kernel_rfl) (fun _ _ _ h => h) (Or.inl ⟨by rfl, ?ya10⟩) (by assumption) ?_
            case ya10 =>
              intro w hSw
              (try dsimp only at hSw)
              go_simp
              (try with_reducible rfl)
            simp only [Act.put, List.setIfInBounds_toArray, List.set_cons_zero, List.set_cons_succ]
            refine wpAnyH_take (i := 17) (oi := { dst := some 93, op := Go.Op.move (Go.Operand.tmp 8), type := 39, pos := _, after := #[{ on := 16, ground := Go.Ground.guard }], guard := some (16, true) }) (v := ?va11) rfl (by kernel_rfl) (by kernel_rfl) (by kernel_rfl) (fun _ _ _ h => h) (Or.inl ⟨by rfl, ?ya11⟩) (by assumption) ?_
            case ya11 =>
              intro w hSw
              (try dsimp only at hSw)
              go_simp
              (try with_reducible rfl)
            simp only [Act.put, List.setIfInBounds_toArray, List.set_cons_zero, List.set_cons_succ]
            refine wpAnyH_take (i := 18) (oi := { dst := some 94, op := Go.Op.move (Go.Operand.tmp 10), type := 42, pos := _, after := #[{ on := 16, ground := Go.Ground.guard }], guard := some (16, true) }) (v := ?va12) rfl (by kernel_rfl) (by kernel_rfl) (by kernel_rfl) (fun _ _ _ h => h) (Or.inl ⟨by rfl, ?ya12⟩) (by assumption) ?_
            case ya12 =>
              intro w hSw
              (try dsimp only at hSw)
              go_simp
              (try with_reducible rfl)
            simp only [Act.put, List.setIfInBounds_toArray, List.set_cons_zero, List.set_cons_succ]
            refine wpAnyH_take (i := 19) (oi := { dst := some 95, op := Go.Op.move (Go.Operand.tmp 16), type := 3, pos := _, after := #[{ on := 16, ground := Go.Ground.guard }], guard := some (16, true) }) (v := ?va13) rfl (by kernel_rfl) (by kernel_rfl) (by kernel_rfl) (fun _ _ _ h => h) (Or.inl ⟨by rfl, ?ya13⟩) (by assumption) ?_
            case ya13 =>
              intro w hSw
              (try dsimp only at hSw)
              go_simp
              (try with_reducible rfl)
            simp only [Act.put, List.setIfInBounds_toArray, List.set_cons_zero, List.set_cons_succ]
            refine wpAnyH_take (i := 20) (oi := { dst := some 96, op := Go.Op.indexAddr 42 (Go.Operand.tmp 94) (Go.Operand.tmp 95), type := 0, pos := _, after := #[{ on := 18, ground := Go.Ground.data }, { on := 19, ground := Go.Ground.data }, { on := 16, ground := Go.Ground.guard }], guard := some (16, true) }) (v := ?va14) rfl (by kernel_rfl) (by kernel_rfl) (by kernel_rfl) (fun _ _ _ h => h) (Or.inl ⟨by rfl, ?ya14⟩) (by assumption) ?_
            case ya14 =>
              intro w hSw
              (try dsimp only at hSw)
              go_simp
              (try with_reducible rfl)
            simp only [Act.put, List.setIfInBounds_toArray, List.set_cons_zero, List.set_cons_succ]
            refine wpAnyH_take (i := 21) (oi := { dst := some 97, op := Go.Op.fieldAddr 32 (Go.Operand.tmp 96) 0, type := 0, pos := _, after := #[{ on := 20, ground := Go.Ground.data }, { on := 16, ground := Go.Ground.guard }], guard := some (16, true) }) (v := ?va15) rfl (by kernel_rfl) (by kernel_rfl) (by kernel_rfl) (fun _ _ _ h => h) (Or.inl ⟨by rfl, ?ya15⟩) (by assumption) ?_
            case ya15 =>
              intro w hSw
              (try dsimp only at hSw)
              go_simp
              (try with_reducible rfl)
            simp only [Act.put, List.setIfInBounds_toArray, List.set_cons_zero, List.set_cons_succ]
            refine wpAnyH_take (i := 22) (oi := { dst := some 98, op := Go.Op.load 3 (Go.Operand.tmp 97), type := 3, pos := _, after := #[{ on := 21, ground := Go.Ground.data }, { on := 16, ground := Go.Ground.guard }], guard := some (16, true) }) (v := ?va16) rfl (by kernel_rfl) (by kernel_rfl) (by kernel_rfl) (fun _ _ _ h => h) (Or.inl ⟨by rfl, ?ya16⟩) (by assumption) ?_
            case ya16 =>
              intro w hSw
              (try dsimp only at hSw)
              go_simp
              (try with_reducible rfl)
            simp only [Act.put, List.setIfInBounds_toArray, List.set_cons_zero, List.set_cons_succ]
            refine wpAnyH_take (i := 23) (oi := { dst := some 99, op := Go.Op.move (Go.Operand.tmp 10), type := 42, pos := _, after := #[{ on := 16, ground := Go.Ground.guard }], guard := some (16, true) }) (v := ?va17) rfl (by kernel_rfl) (by kernel_rfl) (by kernel_rfl) (fun _ _ _ h => h) (Or.inl ⟨by rfl, ?ya17⟩) (by assumption) ?_
            case ya17 =>
              intro w hSw
              (try dsimp only at hSw)
              go_simp
              (try with_reducible rfl)
            simp only [Act.put, List.setIfInBounds_toArray, List.set_cons_zero, List.set_cons_succ]
            refine wpAnyH_take (i := 24) (oi := { dst := some 100, op := Go.Op.move (Go.Operand.tmp 16), type := 3, pos := _, after := #[{ on := 16, ground := Go.Ground.guard }], guard := some (16, true) }) (v := ?va18) rfl (by kernel_rfl) (by kernel_rfl) (by kernel_rfl) (fun _ _ _ h => h) (Or.inl ⟨by rfl, ?ya18⟩) (by assumption) ?_
            case ya18 =>
              intro w hSw
              (try dsimp only at hSw)
              go_simp
              (try with_reducible rfl)
            simp only [Act.put, List.setIfInBounds_toArray, List.set_cons_zero, List.set_cons_succ]
            refine wpAnyH_take (i := 25) (oi := { dst := some 101, op := Go.Op.indexAddr 42 (Go.Operand.tmp 99) (Go.Operand.tmp 100), type := 0, pos := _, after := #[{ on := 23, ground := Go.Ground.data }, { on := 24, ground := Go.Ground.data }, { on := 16, ground := Go.Ground.guard }], guard := some (16, true) }) (v := ?va19) rfl (by kernel_rfl) (by kernel_rfl) (by kernel_rfl) (fun _ _ _ h => h) (Or.inl ⟨by rfl, ?ya19⟩) (by assumption) ?_
            case ya19 =>
              intro w hSw
              (try dsimp only at hSw)
              go_simp
              (try with_reducible rfl)
            simp only [Act.put, List.setIfInBounds_toArray, List.set_cons_zero, List.set_cons_succ]
            refine wpAnyH_take (i := 26) (oi := { dst := some 102, op := Go.Op.fieldAddr 32 (Go.Operand.tmp 101) 1, type := 0, pos := _, after := #[{ on := 25, ground := Go.Ground.data }, { on := 16, ground := Go.Ground.guard }], guard := some (16, true) }) (v := ?va20) rfl (by kernel_rfl) (by kernel_rfl) (by kernel_rfl) (fun _ _ _ h => h) (Or.inl ⟨by rfl, ?ya20⟩) (by assumption) ?_
            case ya20 =>
              intro w hSw
              (try dsimp only at hSw)
              go_simp
              (try with_reducible rfl)
            simp only [Act.put, List.setIfInBounds_toArray, List.set_cons_zero, List.set_cons_succ]
            refine wpAnyH_take (i := 27) (oi := { dst := some 103, op := Go.Op.load 3 (Go.Operand.tmp 102), type := 3, pos := _, after := #[{ on := 26, ground := Go.Ground.data }, { on := 16, ground := Go.Ground.guard }], guard := some (16, true) }) (v := ?va21) rfl (by kernel_rfl) (by kernel_rfl) (by kernel_rfl) (fun _ _ _ h => h) (Or.inl ⟨by rfl, ?ya21⟩) (by assumption) ?_
            case ya21 =>
              intro w hSw
              (try dsimp only at hSw)
              go_simp
              (try with_reducible rfl)
            simp only [Act.put, List.setIfInBounds_toArray, List.set_cons_zero, List.set_cons_succ]
            refine wpAnyH_ready (rs := [28]) (by kernel_rfl) (by simp) ?_
            refine (AllReadyH.cons rfl (fun K9 hK9 => ?ca24) AllReadyH.nil)
            case ca24 =>
              go_simp
              go_wp2_with (go_at_call 14; refine HG.mono ?_; rintro e w6 ⟨rfl, s6, H6⟩)
              refine hK9.out _ _ s6 (fun hHeld => ?_)
              clear hK9
              (try simp only [Act.put, List.setIfInBounds_toArray, List.set_cons_zero, List.set_cons_succ])
              refine wpAnyH_take (i := 29) (oi := { dst := some 105, op := Go.Op.binOp Go.BinOp.neq 25 (Go.Operand.tmp 104) (Go.Operand.const Go.Value.nilIface) 25, type := 4, pos := _, after := #[{ on := 28, ground := Go.Ground.data }, { on := 16, ground := Go.Ground.guard }], guard := some (16, true) }) (v := ?va22) rfl (by kernel_rfl) (by kernel_rfl) (by kernel_rfl) (fun _ _ _ h => h) (Or.inl ⟨by rfl, ?ya22⟩) (by assumption) ?_
              case ya22 =>
                intro w hSw
                (try dsimp only at hSw)
                go_simp
                (try with_reducible rfl)
              simp only [Act.put, List.setIfInBounds_toArray, List.set_cons_zero, List.set_cons_succ]
              refine wpAnyH_take (i := 30) (oi := { dst := some 106, op := Go.Op.pick (Go.Operand.tmp 92) (Go.Operand.tmp 105) (Go.Operand.const (Go.Value.bool false)), type := 4, pos := _, after := #[{ on := 16, ground := Go.Ground.data }, { on := 29, ground := Go.Ground.data }], guard := none }) (v := ?va23) rfl (by kernel_rfl) (by kernel_rfl) (by kernel_rfl) (fun _ _ _ h => h) (Or.inl ⟨by rfl, ?ya23⟩) (by assumption) ?_
              case ya23 =>
                intro w hSw
                (try dsimp only at hSw)
                go_simp
                (try with_reducible rfl)
              simp only [Act.put, List.setIfInBounds_toArray, List.set_cons_zero, List.set_cons_succ]
              refine wpAnyH_done (by kernel_rfl) ?_ _
              refine NoPanic.normal ?_
              go_wp2_with fail
              go_roundw
              case rel => exact ⟨i + 1, by omega, by go_num, H6.out⟩
              case measure => simp [intOf]; omega
          · have s0 : ((x0 : Int) == (a : Int)) = false := by rw [beq_eq_false_iff_ne]; omega
            by_cases h1 : x1 = a
            · have s1 : ((x1 : Int) == (a : Int)) = true := by rw [h1]; exact beq_self_eq_true _
              have HG : Hid (Calls Tryz.prog 14 _ wr.drew _) := HD.out wr.drew (HL.out.1.step hbd) (HL.out.2.below hbd) (Or.inr h1)
              clear h0 h1
              go_wp2_with fail
              go_region_held3 (fun V => V.cell? ⟨b, i * 2, none⟩ = some (.int .i64 (x0 : Int)) ∧ V.cell? ⟨b, i * 2 + 1, none⟩ = some (.int .i64 (x1 : Int))) (first | (go_keep; done) | exact ⟨c0, c1⟩)
                (first | (go_at_call 14; refine HG.out.mono ?_; rintro e w6 ⟨rfl, s6, H6⟩))
              go_wp2_with fail
              go_roundw
              case rel => exact ⟨i + 1, by omega, by go_num, H6.out⟩
              case measure => simp [intOf]; omega
            · have s1 : ((x1 : Int) == (a : Int)) = false := by rw [beq_eq_false_iff_ne]; omega
              have HG : Hid (∀ nq, Dr w1 G (rest A a (i + 1)) (wr.drewN nq) ∧ Li G (wr.drewN nq) (some ⟨b, 0, none⟩) N ca A) := fun nq => ⟨by rw [HS.out (by omega)]; exact HL.out.1.step (Br.below_drewN rfl), HL.out.2.below (Br.below_drewN rfl)⟩
              clear h0 h1
              go_wp2_with fail
              go_quiet (fail)
              go_wp2_with fail
              go_roundw
              case rel => exact ⟨i + 1, by omega, by go_num, HG.out _⟩
              case measure => simp [intOf]; omega
        · obtain rfl : i = N := by omega
          have i1 : ¬ (i : Int) < (i : Int) := by omega
          have HD : Hid (Dr w1 G (Br.without A a) wr) := by
            have h := HL.out.1
            rw [← HN.out.1, rest_end] at h
            exact h
          obtain ⟨q, hq⟩ := rest_of (Br.without A a)
          have hj := Br.joint_count (n := G.n) HAm.out HP.out hq HA.out
          have hw := Br.parts_without hq HA.out
          obtain ⟨K2, hK2⟩ : ∃ K2, partsOf G.n q = K2 := ⟨_, rfl⟩
          rw [HKp.out, hK2] at hj
          rw [hK2] at hw
          have HK2 : Hid (Rest (Br.without A a) q ∧ partsOf G.n q = K2) := ⟨hq, hK2⟩
          have k60 : K2 ≤ 60 := by
            rw [← hK2]
            have h1 : partsOf G.n q ≤ G.n := cnt_le _ _
            have := HL.out.1.n60
            omega
          have hone := cnt_alone hq HA.out
          have w2' : IntKind.i64.wrap ((K2 : Int) - 1) = (K2 : Int) - 1 := by rw [IntKind.wrap_i64]; omega
          clear hw hq hK2 hlt hi hm HL
          go_wp2_with fail
          refine (dr_size HD.out HK2.out.1 a HA.out 1 hone).mono ?_
          rintro e w6 ⟨rfl, hb6⟩
          have H6 : Hid (Dr w1 G (Br.without A a) w6) := HD.out.step hb6
          clear hb6 hone
          go_wp2_with fail
          refine (dr_parts H6.out HK2.out.1 K2 HK2.out.2).mono ?_
          rintro e w7 ⟨rfl, hb7⟩
          have H7 : Hid (Below w.heap.size w w7) := HE.out _ (H6.out.step hb7).old
          clear hb7
          cases is with
          | true =>
            have hlt : (K : Int) < (K2 : Int) - 1 := by have := hj.2 (HI.out.1 rfl); omega
            clear hj
            go_wp2_with fail
            go_ret
            exact ⟨rfl, H7.out⟩
          | false =>
            have hlt : ¬ (K : Int) < (K2 : Int) - 1 := fun h => by have := HI.out.2 (hj.1 (by omega)); cases this
            have HDD : Hid (decide ((K : Int) < (K2 : Int) - 1) = false) := decide_eq_false hlt
            clear hj hlt
            go_wp2_with fail
            go_ret
            exact ⟨by show Ending.returned (.bool (!decide ((K : Int) < (K2 : Int) - 1))) = _; rw [HDD.out]; rfl, H7.out⟩

end Go.Proofs.YtcfemppdeidjmadGreat.To
