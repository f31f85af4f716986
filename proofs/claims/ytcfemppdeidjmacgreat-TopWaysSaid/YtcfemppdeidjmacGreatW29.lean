/-
  Xh
-/
import Derived.Test.YtcfemppdeidjmacGreatW28
namespace Go.Proofs.YtcfemppdeidjmacGreat.To
set_option linter.unusedSectionVars false
variable [Inhabited Zed] [Inhabited (PLift ((default : Zed).n ≤ 0))]
open Go.RowKit Go.Deep
open Go.RowKit (Below)
set_option linter.unusedVariables false

variable {w w' wr w0 : World} {G : Gr.GPl} {A T E P Q : List (Nat × Nat)} {e : Nat × Nat} {m n i j k g N c : Nat} {ad : Option Addr} {p q : Nat → Nat} {f : Nat → Int × Int × Int}

set_option maxRecDepth 100000 in
set_option maxHeartbeats 64000000 in
theorem top_ways (O : OneOk) (S : ShortTells) {c : Nat} (h : As.EvAt w ad m f) (n a b : Int) :
    Calls Tryz.prog 3 #[.int .i64 n, .slice ad m c, .int .i64 a, .int .i64 b] w fun e w' => e = .returned (.bool true) ∧ Below w.heap.size w w' := by
  have HH : Hid (As.EvAt w ad m f) := h
  have HR : Hid ShortTells := S
  clear h S
  go_enter Tryz.func3, Tryz.ntmps3
  go_wp2_with fail
  refine (O (w := w)).mono ?_
  rintro e w1 ⟨rfl, hb1⟩
  have HB1 : Hid (Below w.heap.size w w1) := hb1
  clear O hb1
  go_wp2_with fail
  by_cases hn : n < 1 ∨ 60 < n
  · refine (drawn_no n hn).mono ?_
    rintro e w2 ⟨rfl, rfl⟩
    clear hn
    go_wp2_with fail
    go_ret
    exact ⟨rfl, HB1.out⟩
  obtain ⟨n, rfl⟩ := Int.eq_ofNat_of_zero_le (show 0 ≤ n by omega)
  refine (drawn_any (HH.out.below HB1.out) n (by omega) (by omega)).mono ?_
  clear hn
  rintro e w2 ⟨G, rfl, rfl, A, hd, hl⟩
  have H2 : Hid (Dr w1 G A w2 ∧ A.length ≤ 120) := ⟨hd, hl⟩
  clear hd hl HH
  have HE : Hid (∀ w', Below w1.heap.size w1 w' → Below w.heap.size w w') := fun w' h => HB1.out.trans (h.mono HB1.out.size)
  clear HB1
  go_wp2_with fail
  by_cases hin : ¬ ((0 ≤ a ∧ a < (G.n : Int)) ∧ 0 ≤ b ∧ b < (G.n : Int))
  · refine (dr_joined_no H2.out.1 a b hin).mono ?_
    rintro e w3 ⟨rfl, hb3⟩
    have HB3 : Hid (Below w.heap.size w w3) := HE.out _ (H2.out.1.step hb3).old
    clear hin hb3
    go_wp2_with fail
    go_ret
    exact ⟨rfl, HB3.out⟩
  obtain ⟨a, rfl⟩ := Int.eq_ofNat_of_zero_le (show 0 ≤ a by omega)
  obtain ⟨b, rfl⟩ := Int.eq_ofNat_of_zero_le (show 0 ≤ b by omega)
  have HN : Hid (a < G.n ∧ b < G.n ∧ (1 ≤ G.n ∧ G.n ≤ 60)) := ⟨by omega, by omega, H2.out.1.n60⟩
  obtain ⟨is, his⟩ : ∃ is : Bool, is = true ↔ Conn A a b := ⟨@decide (Conn A a b) (Classical.propDecidable _), by simp⟩
  have HI : Hid (is = true ↔ Conn A a b) := his
  clear hin his
  refine (dr_joined H2.out.1 a b HN.out.1 HN.out.2.1 is HI.out).mono ?_
  rintro e w3 ⟨rfl, hb3⟩
  have H3 : Hid (Dr w1 G A w3 ∧ A.length ≤ 120) := ⟨H2.out.1.step hb3, H2.out.2⟩
  clear hb3 H2
  go_wp2_with fail
  refine (dr_edges H3.out.1).mono ?_
  rintro e w4 ⟨al, ca, rfl, hb4, hE⟩
  obtain ⟨N, hN⟩ : ∃ N, A.length = N := ⟨_, rfl⟩
  rw [hN] at hE ⊢
  have H4 : Hid (Dr w1 G A w4 ∧ Li G w4 al N ca A ∧ A.length = N ∧ N ≤ 120) := ⟨H3.out.1.step hb4, hE, hN, hN ▸ H3.out.2⟩
  clear hb4 hE hN H3
  go_wp2_with fail
  refine (dr_tree H4.out.1).mono ?_
  rintro e w5 ⟨at', ct, T, rfl, hb5, hT, hup, hsub, -, hcon⟩
  obtain ⟨NT, hNT⟩ : ∃ NT, T.length = NT := ⟨_, rfl⟩
  rw [hNT] at hT ⊢
  have H5 : Hid (Dr w1 G A w5 ∧ Li G w5 al N ca A ∧ Li G w5 at' NT ct T) := ⟨H4.out.1.step hb5, H4.out.2.1.below hb5, hT⟩
  have HA : Hid (A.length = N ∧ N ≤ 120 ∧ ∀ e ∈ A, e.1 < e.2 ∧ e.2 < G.n) := ⟨H4.out.2.2.1, H4.out.2.2.2, H4.out.1.among⟩
  have HT : Hid (Br.Valid (G.n : Nat) NT (Br.fn T) ∧ Br.edges (Br.fn T) NT = T ∧ (∀ e ∈ T, e ∈ A) ∧ (∀ i j, Conn T i j ↔ Conn A i j)) := by
    refine ⟨⟨⟨by have := HN.out; omega, by have := HN.out; omega⟩, ?_, ?_⟩, fn_edges hNT, hsub, hcon⟩
    · have h1 : T.length ≤ A.length := (rises_nodup hup).length_le_of_subset hsub
      have := HA.out
      omega
    · rw [Int.toNat_natCast, ← hNT]
      exact Br.fn_may hup fun e he => HA.out.2.2 e (hsub e he)
  obtain ⟨p, hp⟩ := rest_of A
  have HP : Hid (Rest A p) := hp
  clear hb5 hT hup hsub hcon hNT hp H4
  go_wp2_with fail
  refine (HR.out (c := ca) H5.out.2.1.eg H5.out.2.1.le H5.out.2.1.max (H5.out.1.valid HA.out.1) HN.out.1 HN.out.2.1).mono ?_
  rintro e w6 hs1
  rw [fn_edges HA.out.1] at hs1
  have HS1 : Hid ((∃ a' c' k, e = .returned (.tuple #[.slice a' (k + 1) c', .nilIface]) ∧ Below w5.heap.size w5 w6 ∧ Pt.Dist A b a k) ∨ (∃ a' c' t y, e = .returned (.tuple #[.slice a' 0 c', .iface t y]) ∧ Below w5.heap.size w5 w6 ∧ ¬ Conn A a b)) := hs1
  clear hs1
  cases is with
  | true =>
    obtain ⟨a1, c1, k1, rfl, hb6, hd1⟩ := HS1.out.resolve_right fun ⟨_, _, _, _, _, _, h⟩ => h (HI.out.1 (by trivial))
    have H6 : Hid (Dr w1 G A w6 ∧ Li G w6 al N ca A ∧ Li G w6 at' NT ct T ∧ Pt.Dist A b a k1 ∧ k1 < G.n) := ⟨H5.out.1.step hb6, H5.out.2.1.below hb6, H5.out.2.2.below hb6, hd1, hd1.lt (fun e he => by have := HA.out.2.2 e he; exact ⟨by omega, this.2⟩) HN.out.2.1⟩
    clear hb6 hd1 H5 HS1
    go_wp2_with fail
    refine (HR.out (c := ct) H6.out.2.2.1.eg H6.out.2.2.1.le H6.out.2.2.1.max HT.out.1 HN.out.1 HN.out.2.1).mono ?_
    rintro e w7 hs2
    rw [HT.out.2.1] at hs2
    obtain ⟨a2, c2, k2, rfl, hb7, hd2⟩ := hs2.resolve_right fun ⟨_, _, _, _, _, _, h⟩ => h ((HT.out.2.2.2 a b).2 (HI.out.1 (by trivial)))
    have H7 : Hid (Dr w1 G A w7 ∧ Li G w7 al N ca A) := ⟨H6.out.1.step hb7, H6.out.2.1.below hb7⟩
    have hkk : ¬ ((k2 : Int) + 1 < (k1 : Int) + 1) := by have := dist_less HT.out.2.2.1 H6.out.2.2.2.1 hd2; omega
    have hkn : ¬ (((k2 + 1 : Nat) : Int) < ((k1 + 1 : Nat) : Int)) := by omega
    clear hb7 hd2 hs2 H6
    go_wp2_with fail
    refine (Br.parts_ok (c := ca) H7.out.2.eg (H7.out.1.valid HA.out.1) (p := p) (by rw [fn_edges HA.out.1]; exact HP.out)).mono ?_
    rintro e w8 ⟨kp, cp, rfl, hIp, hb8⟩
    have H8 : Hid (Dr w1 G A w8 ∧ Li G w8 al N ca A ∧ ∀ i, i < G.n → w8.cell? ⟨kp, i, none⟩ = some (.int .i64 ((p i : Nat) : Int))) := by
      refine ⟨H7.out.1.step hb8, H7.out.2.below hb8, fun i hi => ?_⟩
      obtain ⟨b', o', e, hc⟩ := hIp.cell i hi
      cases e
      rw [Nat.zero_add] at hc
      rw [hc]
      simp [Br.parts, List.getD_eq_getElem?_getD, hi]
    clear hb8 hIp H7
    go_wp2_with fail
    refine (new_two (w0 := w8) (Below.refl _ _) G.n HN.out.2.2.1 HN.out.2.2.2 (nth A)).mono ?_
    rintro e w9 ⟨g, F, rfl, hb9, hu, hF⟩
    have H9 : Hid (Below w8.heap.size w8 w9 ∧ UG w8 G.n (nth A) [] w9 g F) := ⟨hb9, hu⟩
    clear hb9 hu hF
    go_wp2_with fail
    refine (fnew_any G.n HN.out.2.2.1 HN.out.2.2.2 zok0).mono ?_
    rintro e w10 ⟨L, rfl, hb10, hf, hLn, hLF⟩
    have H10 : Hid (TW w8 G.n A [] 0 w10 g L) := ⟨⟨F, H9.out.2.below hb10, fun k hk hF => by have := (H9.out.2.lt hF).1; have := hLF k (Or.inl hk); omega⟩, ⟨[], _, hf, fun x y => Iff.rfl⟩, fun k hk => Nat.le_trans H9.out.1.size (hLF k (Or.inl hk)), hLn, H9.out.1.trans (hb10.mono H9.out.1.size)⟩
    clear hb10 hf hLn hLF H9
    go_wp2_with fail
    go_loopw [26, 27] (fun v i wr => ∃ j : Nat, j ≤ G.n ∧ i = .int .i64 (j : Nat) ∧ v = .int .i64 ((cnt j (fun i => decide (p i = i)) : Nat) : Int) ∧ wr = w10) (fun _ i _ => G.n - (intOf i).toNat)
    case atStart => exact ⟨0, Nat.zero_le _, rfl, rfl, rfl⟩
    case round =>
      obtain ⟨j, hj, rfl, rfl, rfl⟩ := hrel
      have hn60 := HN.out.2.2
      have hcj : cnt j (fun i => decide (p i = i)) ≤ j := cnt_le _ _
      have hcs := cnt_succ j (fun i => decide (p i = i))
      obtain ⟨cj, hcj'⟩ : ∃ cj, cnt j (fun i => decide (p i = i)) = cj := ⟨_, rfl⟩
      by_cases hlt : j < G.n
      · have q0 := cell_keep H10.out.below (H8.out.2.2 j hlt)
        rw [hcj'] at hcj hcs ⊢
        obtain ⟨y, hy⟩ : ∃ y, p j = y := ⟨_, rfl⟩
        rw [hy] at q0 hcs
        have i0 : (0 : Int) ≤ (j : Int) := by omega
        have i1 : (j : Int) < (G.n : Int) := by omega
        have j5 : IntKind.i64.wrap ((j : Int) + 1) = (j : Int) + 1 := by rw [IntKind.wrap_i64]; omega
        have c5 : IntKind.i64.wrap ((cj : Int) + 1) = ((cj + 1 : Nat) : Int) := by rw [IntKind.wrap_i64]; omega
        have HCJ : Hid (cnt j (fun i => decide (p i = i)) = cj) := hcj'
        clear hy hcj'
        by_cases hyj : y = j
        · have s0 : ((y : Int) == (j : Int)) = true := by rw [hyj]; exact beq_self_eq_true _
          have HC : Hid (cnt (j + 1) (fun i => decide (p i = i)) = cj + 1) := show _ = _ by rw [hcs]; simp [hyj]
          clear hcs hyj
          go_wp2_with fail
          go_roundw
          case rel => exact ⟨j + 1, by omega, by go_num, by (rw [HC.out]; first | done | rfl | (push_cast; rfl)), by trivial⟩
          case measure => simp [intOf]; omega
        · have s0 : ((y : Int) == (j : Int)) = false := by rw [beq_eq_false_iff_ne]; omega
          have HC : Hid (cnt (j + 1) (fun i => decide (p i = i)) = cj) := show _ = _ by rw [hcs]; simp [hyj]
          clear hcs hyj
          go_wp2_with fail
          go_roundw
          case rel => exact ⟨j + 1, by omega, by go_num, by (rw [HC.out]; first | done | rfl | (push_cast; rfl)), by trivial⟩
          case measure => simp [intOf]; omega
      · have hjn : j = G.n := by omega
        have i1 : ¬ (j : Int) < (G.n : Int) := by omega
        have HK : Hid (partsOf G.n p = cj ∧ cj ≤ 60) := ⟨by rw [← hcj', hjn]; rfl, by omega⟩
        rw [hcj']
        clear hcj' hcs hcj hjn hlt hj hn60
        go_wp2_with fail
        clear i1
        go_loopw [28] (fun i wr => ∃ j : Nat, j ≤ N ∧ i = .int .i64 (j : Nat) ∧ TW w8 G.n A (List.range j) j wr g L) (fun i _ => N - (intOf i).toNat)
        case atStart => exact ⟨0, Nat.zero_le _, rfl, H10.out⟩
        case round =>
          clear H10
          obtain ⟨i, hi, rfl, ht⟩ := hrel
          have HL : Hid (TW w8 G.n A (List.range i) i wr g L) := ht
          have hm := HA.out.2.1
          clear ht
          by_cases hlt : i < N
          · have hil : i < A.length := by rw [HA.out.1]; exact hlt
            obtain ⟨bl, rfl, c0, c1⟩ := (H8.out.2.1.below HL.out.below).at_.cell i hil
            obtain ⟨x0, hx0⟩ : ∃ x0, (nth A i).1 = x0 := ⟨_, rfl⟩
            obtain ⟨x1, hx1⟩ : ∃ x1, (nth A i).2 = x1 := ⟨_, rfl⟩
            have e0 : (A.getD i (0, 0)).1 = x0 := hx0
            have e1 : (A.getD i (0, 0)).2 = x1 := hx1
            rw [e0] at c0
            rw [e1] at c1
            have HC : Hid (∀ w', Below w8.heap.size w8 w' → w'.cell? ⟨bl, i * 2, none⟩ = some (.int .i64 (x0 : Nat)) ∧ w'.cell? ⟨bl, i * 2 + 1, none⟩ = some (.int .i64 (x1 : Nat))) := fun w' h => by
              obtain ⟨b', e, q0, q1⟩ := (H8.out.2.1.below h).at_.cell i hil
              cases e
              rw [e0] at q0
              rw [e1] at q1
              exact ⟨q0, q1⟩
            have hin : (nth A i).1 < G.n ∧ (nth A i).2 < G.n := by
              have := HA.out.2.2 (nth A i) (by rw [nth_get hil]; exact List.getElem_mem hil)
              exact ⟨by omega, this.2⟩
            have HJ : Hid (Calls Tryz.prog 17 #[.pointer (some ⟨g, 0, none⟩), .int .i64 (x0 : Nat), .int .i64 (x1 : Nat)] wr.drew fun e w' => ∃ v, e = .returned v ∧ (w'.cell? ⟨bl, i * 2, none⟩ = some (.int .i64 (x0 : Nat)) ∧ w'.cell? ⟨bl, i * 2 + 1, none⟩ = some (.int .i64 (x1 : Nat))) ∧ Hid (TW w8 G.n A (List.range (i + 1)) i w' g L)) := by
              have := (HL.out.step ((Below.refl _ _).drew : Below wr.heap.size wr wr.drew)).join i
              rw [hx0, hx1] at this
              refine this.mono ?_
              rintro e w' ⟨v, rfl, h2⟩
              refine ⟨v, rfl, HC.out w' h2.below, ?_⟩
              rw [List.range_succ]
              exact h2
            have HJ2 : Hid (∀ w', TW w8 G.n A (List.range (i + 1)) i w' g L → Calls Tryz.prog 18 #[.pointer (some ⟨L.g, 0, none⟩), .int .i64 (x0 : Nat), .int .i64 (x1 : Nat)] w'.drew fun e w'' => ∃ v, e = .returned v ∧ (w''.cell? ⟨bl, i * 2, none⟩ = some (.int .i64 (x0 : Nat)) ∧ w''.cell? ⟨bl, i * 2 + 1, none⟩ = some (.int .i64 (x1 : Nat))) ∧ Hid (TW w8 G.n A (List.range (i + 1)) (i + 1) w'' g L)) := fun w' h => by
              have := (h.step ((Below.refl _ _).drew : Below w'.heap.size w' w'.drew)).link hil hin
              rw [hx0, hx1] at this
              refine this.mono ?_
              rintro e w'' ⟨v, rfl, h2⟩
              exact ⟨v, rfl, HC.out w'' h2.below, h2⟩
            have i0 : (0 : Int) ≤ (i : Int) := by omega
            have i1 : (i : Int) < (N : Int) := by omega
            have j5 : IntKind.i64.wrap ((i : Int) + 1) = (i : Int) + 1 := by rw [IntKind.wrap_i64]; omega
            clear hx0 hx1 e0 e1 hin hil hm
            go_wp2_with fail
            go_region_held3 (fun V => V.cell? ⟨bl, i * 2, none⟩ = some (.int .i64 (x0 : Nat)) ∧ V.cell? ⟨bl, i * 2 + 1, none⟩ = some (.int .i64 (x1 : Nat))) (first | (go_keep; done) | exact ⟨c0, c1⟩)
              (first | (go_at_call 17; refine HJ.out.mono ?_; rintro e w11 ⟨v11, rfl, s11, H11⟩))
            obtain ⟨c0, c1⟩ := s11
            have HJ3 := HJ2.out w11 H11.out
            go_wp2_with fail
            go_region_held3 (fun V => V.cell? ⟨bl, i * 2, none⟩ = some (.int .i64 (x0 : Nat)) ∧ V.cell? ⟨bl, i * 2 + 1, none⟩ = some (.int .i64 (x1 : Nat))) (first | (go_keep; done) | exact ⟨c0, c1⟩)
              (first | (go_at_call 18; refine HJ3.mono ?_; rintro e w12 ⟨v12, rfl, s12, H12⟩))
            clear HJ3
            go_wp2_with fail
            go_roundw
            case rel => exact ⟨i + 1, by omega, by go_num, H12.out⟩
            case measure => simp [intOf]; omega
          · have hiN : i = A.length := by rw [HA.out.1]; omega
            have i1 : ¬ (i : Int) < (N : Int) := by omega
            obtain ⟨F, hug, -⟩ := HL.out.un
            obtain ⟨E, r, hfa, hEc⟩ := HL.out.fo
            have HLn : Hid (L.n = G.n ∧ Below w8.heap.size w8 wr) := ⟨HL.out.ln, HL.out.below⟩
            have hall : (List.range i).map (nth A) = A := by rw [range_nth A i (by omega), hiN, List.take_length]
            have hin : ∀ k ∈ List.range i, (nth A k).1 < G.n ∧ (nth A k).2 < G.n := fun k hk => by
              have hk' : k < A.length := by have := List.mem_range.1 hk; omega
              have := HA.out.2.2 (nth A k) (by rw [nth_get hk']; exact List.getElem_mem hk')
              exact ⟨by omega, this.2⟩
            rw [hiN, List.take_length] at hEc
            obtain ⟨M, hua, hgen⟩ := hug
            have hrt : ∀ x y, rt M x = rt M y ↔ Conn A x y := fun x y => by
              have := gen_conn hin hgen x y
              rw [hall] at this
              exact this
            have hlk := hua.linked
            have HS1 : Hid (∀ w', Below wr.heap.size wr w' → Calls Tryz.prog 19 #[.pointer (some ⟨g, 0, none⟩), .int .i64 (a : Nat), .int .i64 (b : Nat)] w' fun e w'' => e = .returned (.tuple #[.bool true, .nilIface]) ∧ Below w'.heap.size w' w'') := fun w' h => by
              have h1 := Un.same_u (hua.below h) a b HN.out.1 HN.out.2.1
              have h2 : decide (rt M a = rt M b) = true := by
                have h3 := HI.out
                rw [← hrt a b] at h3
                simpa using h3
              rw [h2] at h1
              exact h1
            have HS2 : Hid (∀ w', Below wr.heap.size wr w' → Calls Tryz.prog 20 #[.pointer (some ⟨L.g, 0, none⟩), .int .i64 (a : Nat), .int .i64 (b : Nat)] w' fun e w'' => e = .returned (.tuple #[.bool true, .nilIface]) ∧ Below w'.heap.size w' w'') := fun w' h => by
              have h1 := same_any (hfa.below h) a b (by rw [HLn.out.1]; exact HN.out.1) (by rw [HLn.out.1]; exact HN.out.2.1)
              have h2 : decide (r a = r b) = true := by
                have h3 := HI.out
                rw [← hEc a b, ← hfa.grown.rest.same a b] at h3
                simpa using h3
              rw [h2] at h1
              exact h1
            obtain ⟨K, hK⟩ : ∃ K, cnt G.n (fun x => decide (p x = p a)) = K := ⟨_, rfl⟩
            have HS3 : Hid (∀ w', Below wr.heap.size wr w' → Calls Tryz.prog 21 #[.pointer (some ⟨g, 0, none⟩), .int .i64 (a : Nat)] w' fun e w'' => e = .returned (.tuple #[.int .i64 (K : Nat), .nilIface]) ∧ Below w'.heap.size w' w'') := fun w' h => by
              have h1 := Un.size_u (hua.below h) a HN.out.1
              rw [cz_count hlk.1 (rt M a) (rt_lt hlk.1 a HN.out.1) (rt_rt hlk.1 a), show cnt G.n (fun i => decide (rt M i = rt M a)) = K by
                rw [← hK]
                refine cnt_congr _ fun x _ => ?_
                rw [Bool.eq_iff_iff, decide_eq_true_iff, decide_eq_true_iff, hrt, HP.out.same]] at h1
              exact h1
            have HS4 : Hid (∀ w', Below wr.heap.size wr w' → Calls Tryz.prog 24 #[.pointer (some ⟨g, 0, none⟩)] w' fun e w'' => e = .returned (.int .i64 (cj : Nat)) ∧ Below w'.heap.size w' w'') := fun w' h => by
              have h1 := Un.parts_u (hua.below h)
              rw [roots_parts hlk.1 HP.out hrt, HK.out.1] at h1
              exact h1
            have HS5 : Hid (∀ w', Below wr.heap.size wr w' → Calls Tryz.prog 25 #[.pointer (some ⟨L.g, 0, none⟩)] w' fun e w'' => (∃ a' c', e = .returned (.slice a' E.length c')) ∧ Below w'.heap.size w' w'') := fun w' h => by
              refine (fedges_any (hfa.below h)).mono ?_
              rintro e w'' ⟨a', c', rfl, hb, -⟩
              exact ⟨⟨a', c', rfl⟩, hb⟩
            have HEn : Hid (cj + E.length = G.n) := show _ = _ by
              have h1 := (forest_parts (n := G.n) (fun e he => by have := hfa.grown.among e he; rw [HLn.out.1] at this; exact this) hfa.grown.rest).2.1 hfa.grown.forest
              have h2 : partsOf G.n r = partsOf G.n p := cnt_congr _ fun x _ => by rw [hfa.grown.rest.one HP.out hEc]
              rw [h2, HK.out.1] at h1
              exact h1
            have HD : Hid (∀ w', Below wr.heap.size wr w' → Dr w1 G A w') := fun w' h => H8.out.1.step (HLn.out.2.trans (h.mono HLn.out.2.size))
            have HS6 : Hid (∀ w', Below wr.heap.size wr w' → Calls Tryz.prog 22 #[.pointer (some ⟨G.g, 0, none⟩), .int .i64 (a : Nat)] w' fun e w'' => e = .returned (.tuple #[.int .i64 (K : Nat), .nilIface]) ∧ Below w'.heap.size w' w'') := fun w' h => dr_size (HD.out w' h) HP.out a HN.out.1 K hK
            have HS7 : Hid (∀ w', Below wr.heap.size wr w' → Calls Tryz.prog 23 #[.pointer (some ⟨G.g, 0, none⟩)] w' fun e w'' => e = .returned (.int .i64 (cj : Nat)) ∧ Below w'.heap.size w' w'') := fun w' h => dr_parts (HD.out w' h) HP.out cj HK.out.1
            have HQ : Hid ((∀ w', Below wr.heap.size wr w' → w'.cell? ⟨kp, a, none⟩ = some (.int .i64 ((p a : Nat) : Int)) ∧ w'.cell? ⟨kp, b, none⟩ = some (.int .i64 ((p b : Nat) : Int))) ∧ (true = true ↔ p a = p b)) := by
              refine ⟨fun w' h => ?_, ?_⟩
              · have hb := HLn.out.2.trans (h.mono HLn.out.2.size)
                exact ⟨cell_keep hb (H8.out.2.2 a HN.out.1), cell_keep hb (H8.out.2.2 b HN.out.2.1)⟩
              · rw [HP.out.same a b]
                first | exact HI.out | simpa using HI.out
            clear hua hgen hrt hlk hfa hEc hall hin hK hiN hlt hi hm HL
            go_wp2_with fail
            refine (HS1.out wr (Below.refl _ _)).mono ?_
            rintro e w13 ⟨rfl, hb13⟩
            have H13 : Hid (Below wr.heap.size wr w13) := hb13
            clear hb13 i1
            go_wp2_with fail
            refine (HS2.out w13 H13.out).mono ?_
            rintro e w14 ⟨rfl, hb14⟩
            have H14 : Hid (Below wr.heap.size wr w14) := H13.out.trans (hb14.mono H13.out.size)
            clear hb14 H13
            go_wp2_with fail
            refine (HS3.out w14 H14.out).mono ?_
            rintro e w15 ⟨rfl, hb15⟩
            have H15 : Hid (Below wr.heap.size wr w15) := H14.out.trans (hb15.mono H14.out.size)
            clear hb15 H14
            go_wp2_with fail
            refine (HS6.out w15 H15.out).mono ?_
            rintro e w16 ⟨rfl, hb16⟩
            have H16 : Hid (Below wr.heap.size wr w16) := H15.out.trans (hb16.mono H15.out.size)
            clear hb16 H15
            obtain ⟨pa, hpa⟩ : ∃ pa, p a = pa := ⟨_, rfl⟩
            obtain ⟨pb, hpb⟩ : ∃ pb, p b = pb := ⟨_, rfl⟩
            have hq := HQ.out
            rw [hpa, hpb] at hq
            have hS0 : Below wr.heap.size wr w16.drew ∧ w16.drew.cell? ⟨kp, a, none⟩ = some (.int .i64 (pa : Nat)) ∧ w16.drew.cell? ⟨kp, b, none⟩ = some (.int .i64 (pb : Nat)) := ⟨H16.out.drew, (hq.1 _ H16.out.drew).1, (hq.1 _ H16.out.drew).2⟩
            have s9 : ((pa : Int) == (pb : Int)) = true := by
              have h3 : (true = true) ↔ pa = pb := by first | exact hq.2 | simpa using hq.2
              rw [Bool.eq_iff_iff, h3, beq_iff_eq]
              omega
            have s8 : ((K : Int) == (K : Int)) = true := beq_self_eq_true _
            have s7 : ((cj : Int) == (cj : Int)) = true := beq_self_eq_true _
            have i0 : (0 : Int) ≤ (a : Int) := by omega
            have i1 : (a : Int) < (G.n : Int) := by have := HN.out.1; omega
            have i2 : (0 : Int) ≤ (b : Int) := by omega
            have i3 : (b : Int) < (G.n : Int) := by have := HN.out.2.1; omega
            have w9 : IntKind.i64.wrap ((G.n : Int) - (E.length : Int)) = (cj : Int) := by rw [IntKind.wrap_i64]; have := HEn.out; have := HN.out.2.2; omega
            have HW : Hid (∀ w', Below wr.heap.size wr w' → Below w.heap.size w w') := fun w' h => HE.out w' (HD.out w' h).old
            clear hq hpa hpb
            go_wp2_with fail
            refine wp_region_noPanic ?_
            refine wp_region_held_drew (S := fun V => Below wr.heap.size wr V ∧ V.cell? ⟨kp, a, none⟩ = some (.int .i64 (pa : Nat)) ∧ V.cell? ⟨kp, b, none⟩ = some (.int .i64 (pb : Nat))) (by kernel_rfl) hS0 (fun hHeld => ?_)
            refine wpAnyH_take (i := 0) (oi := { dst := some 193, op := Go.Op.move (Go.Operand.tmp 30), type := 28, pos := _, after := #[], guard := none }) (v := ?va1) rfl (by kernel_rfl) (by kernel_rfl) (by kernel_rfl) (fun _ _ _ h => h) (Or.inl ⟨by rfl, ?ya1⟩) (by assumption) ?_
            case ya1 =>
              intro w hSw
              (try dsimp only at hSw)
              go_simp
              (try with_reducible rfl)
            simp only [Act.put, List.setIfInBounds_toArray, List.set_cons_zero, List.set_cons_succ]
            refine wpAnyH_take (i := 1) (oi := { dst := some 194, op := Go.Op.binOp Go.BinOp.eql 28 (Go.Operand.tmp 193) (Go.Operand.const Go.Value.nilIface) 28, type := 4, pos := _, after := #[{ on := 0, ground := Go.Ground.data }], guard := none }) (v := ?va2) rfl (by kernel_rfl) (by kernel_rfl) (by kernel_rfl) (fun _ _ _ h => h) (Or.inl ⟨by rfl, ?ya2⟩) (by assumption) ?_
            case ya2 =>
              intro w hSw
              (try dsimp only at hSw)
              go_simp
              (try with_reducible rfl)
            simp only [Act.put, List.setIfInBounds_toArray, List.set_cons_zero, List.set_cons_succ]
            refine wpAnyH_take (i := 2) (oi := { dst := some 195, op := Go.Op.move (Go.Operand.tmp 194), type := 4, pos := _, after := #[{ on := 1, ground := Go.Ground.data }], guard := none }) (v := ?va3) rfl (by kernel_rfl) (by kernel_rfl) (by kernel_rfl) (fun _ _ _ h => h) (Or.inl ⟨by rfl, ?ya3⟩) (by assumption) ?_
            case ya3 =>
              intro w hSw
              (try dsimp only at hSw)
              go_simp
              (try with_reducible rfl)
            simp only [Act.put, List.setIfInBounds_toArray, List.set_cons_zero, List.set_cons_succ]
            refine wpAnyH_take (i := 3) (oi := { dst := some 196, op := Go.Op.move (Go.Operand.tmp 32), type := 28, pos := _, after := #[{ on := 2, ground := Go.Ground.guard }], guard := some (2, true) }) (v := ?va4) rfl (by kernel_rfl) (by kernel_rfl) (by kernel_rfl) (fun _ _ _ h => h) (Or.inl ⟨by rfl, ?ya4⟩) (by assumption) ?_
            case ya4 =>
              intro w hSw
              (try dsimp only at hSw)
              go_simp
              (try with_reducible rfl)
            simp only [Act.put, List.setIfInBounds_toArray, List.set_cons_zero, List.set_cons_succ]
            refine wpAnyH_take (i := 4) (oi := { dst := some 197, op := Go.Op.binOp Go.BinOp.eql 28 (Go.Operand.tmp 196) (Go.Operand.const Go.Value.nilIface) 28, type := 4, pos := _, after := #[{ on := 3, ground := Go.Ground.data }, { on := 2, ground := Go.Ground.guard }], guard := some (2, true) }) (v := ?va5) rfl (by kernel_rfl) (by kernel_rfl) (by kernel_rfl) (fun _ _ _ h => h) (Or.inl ⟨by rfl, ?ya5⟩) (by assumption) ?_
            case ya5 =>
              intro w hSw
              (try dsimp only at hSw)
              go_simp
              (try with_reducible rfl)
            simp only [Act.put, List.setIfInBounds_toArray, List.set_cons_zero, List.set_cons_succ]
            refine wpAnyH_take (i := 5) (oi := { dst := some 198, op := Go.Op.pick (Go.Operand.tmp 195) (Go.Operand.tmp 197) (Go.Operand.const (Go.Value.bool false)), type := 4, pos := _, after := #[{ on := 2, ground := Go.Ground.data }, { on := 4, ground := Go.Ground.data }], guard := none }) (v := ?va6) rfl (by kernel_rfl) (by kernel_rfl) (by kernel_rfl) (fun _ _ _ h => h) (Or.inl ⟨by rfl, ?ya6⟩) (by assumption) ?_
            case ya6 =>
              intro w hSw
              (try dsimp only at hSw)
              go_simp
              (try with_reducible rfl)
            simp only [Act.put, List.setIfInBounds_toArray, List.set_cons_zero, List.set_cons_succ]
            refine wpAnyH_take (i := 6) (oi := { dst := some 199, op := Go.Op.move (Go.Operand.tmp 198), type := 4, pos := _, after := #[{ on := 5, ground := Go.Ground.data }, { on := 2, ground := Go.Ground.chain }], guard := none }) (v := ?va7) rfl (by kernel_rfl) (by kernel_rfl) (by kernel_rfl) (fun _ _ _ h => h) (Or.inl ⟨by rfl, ?ya7⟩) (by assumption) ?_
            case ya7 =>
              intro w hSw
              (try dsimp only at hSw)
              go_simp
              (try with_reducible rfl)
            simp only [Act.put, List.setIfInBounds_toArray, List.set_cons_zero, List.set_cons_succ]
            refine wpAnyH_take (i := 7) (oi := { dst := some 200, op := Go.Op.move (Go.Operand.tmp 34), type := 28, pos := _, after := #[{ on := 6, ground := Go.Ground.guard }], guard := some (6, true) }) (v := ?va8) rfl (by kernel_rfl) (by kernel_rfl) (by kernel_rfl) (fun _ _ _ h => h) (Or.inl ⟨by rfl, ?ya8⟩) (by assumption) ?_
            case ya8 =>
              intro w hSw
              (try dsimp only at hSw)
              go_simp
              (try with_reducible rfl)
            simp only [Act.put, List.setIfInBounds_toArray, List.set_cons_zero, List.set_cons_succ]
            refine wpAnyH_take (i := 8) (oi := { dst := some 201, op := Go.Op.binOp Go.BinOp.eql 28 (Go.Operand.tmp 200) (Go.Operand.const Go.Value.nilIface) 28, type := 4, pos := _, after := #[{ on := 7, ground := Go.Ground.data }, { on := 6, ground := Go.Ground.guard }], guard := some (6, true) }) (v := ?va9) rfl (by kernel_rfl) (by kernel_rfl) (by kernel_rfl) (fun _ _ _ h => h) (Or.inl ⟨by rfl, ?ya9⟩) (by assumption) ?_
            case ya9 =>
              intro w hSw
              (try dsimp only at hSw)
              go_simp
              (try with_reducible rfl)
            simp only [Act.put, List.setIfInBounds_toArray, List.set_cons_zero, List.set_cons_succ]
            refine wpAnyH_take (i := 9) (oi := { dst := some 202, op := Go.Op.pick (Go.Operand.tmp 199) (Go.Operand.tmp 201) (Go.Operand.const (Go.Value.bool false)), type := 4, pos := _, after := #[{ on := 6, ground := Go.Ground.data }, { on := 8, ground := Go.Ground.data }], guard := none }) (v := ?va10) rfl (by kernel_rfl) (by kernel_rfl) (by kernel_rfl) (fun _ _ _ h => h) (Or.inl ⟨by rfl, ?ya10⟩) (by assumption) ?_
            case ya10 =>
              intro w hSw
              (try dsimp only at hSw)
              go_simp
              (try with_reducible rfl)
            simp only [Act.put, List.setIfInBounds_toArray, List.set_cons_zero, List.set_cons_succ]
            refine wpAnyH_take (i := 10) (oi := { dst := some 203, op := Go.Op.move (Go.Operand.tmp 202), type := 4, pos := _, after := #[{ on := 9, ground := Go.Ground.data }, { on := 6, ground := Go.Ground.chain }], guard := none }) (v := ?va11) rfl (by kernel_rfl) (by kernel_rfl) (by kernel_rfl) (fun _ _ _ h => h) (Or.inl ⟨by rfl, ?ya11⟩) (by assumption) ?_
            case ya11 =>
              intro w hSw
              (try dsimp only at hSw)
              go_simp
              (try with_reducible rfl)
            simp only [Act.put, List.setIfInBounds_toArray, List.set_cons_zero, List.set_cons_succ]
            refine wpAnyH_take (i := 11) (oi := { dst := some 204, op := Go.Op.move (Go.Operand.tmp 36), type := 28, pos := _, after := #[{ on := 10, ground := Go.Ground.guard }], guard := some (10, true) }) (v := ?va12) rfl (by kernel_rfl) (by kernel_rfl) (by kernel_rfl) (fun _ _ _ h => h) (Or.inl ⟨by rfl, ?ya12⟩) (by assumption) ?_
            case ya12 =>
              intro w hSw
              (try dsimp only at hSw)
              go_simp
              (try with_reducible rfl)
            simp only [Act.put, List.setIfInBounds_toArray, List.set_cons_zero, List.set_cons_succ]
            refine wpAnyH_take (i := 12) (oi := { dst := some 205, op := Go.Op.binOp Go.BinOp.eql 28 (Go.Operand.tmp 204) (Go.Operand.const Go.Value.nilIface) 28, type := 4, pos := _, after := #[{ on := 11, ground := Go.Ground.data }, { on := 10, ground := Go.Ground.guard }], guard := some (10, true) }) (v := ?va13) rfl (by kernel_rfl) (by kernel_rfl) (by kernel_rfl) (fun _ _ _ h => h) (Or.inl ⟨by rfl, ?ya13⟩) (by assumption) ?_
            case ya13 =>
              intro w hSw
              (try dsimp only at hSw)
              go_simp
              (try with_reducible rfl)
            simp only [Act.put, List.setIfInBounds_toArray, List.set_cons_zero, List.set_cons_succ]
            refine wpAnyH_take (i := 13) (oi := { dst := some 206, op := Go.Op.pick (Go.Operand.tmp 203) (Go.Operand.tmp 205) (Go.Operand.const (Go.Value.bool false)), type := 4, pos := _, after := #[{ on := 10, ground := Go.Ground.data }, { on := 12, ground := Go.Ground.data }], guard := none }) (v := ?va14) rfl (by kernel_rfl) (by kernel_rfl) (by kernel_rfl) (fun _ _ _ h => h) (Or.inl ⟨by rfl, ?ya14⟩) (by assumption) ?_
            case ya14 =>
              intro w hSw
              (try dsimp only at hSw)
              go_simp
              (try with_reducible rfl)
            simp only [Act.put, List.setIfInBounds_toArray, List.set_cons_zero, List.set_cons_succ]
            refine wpAnyH_take (i := 14) (oi := { dst := some 207, op := Go.Op.move (Go.Operand.tmp 206), type := 4, pos := _, after := #[{ on := 13, ground := Go.Ground.data }, { on := 10, ground := Go.Ground.chain }], guard := none }) (v := ?va15) rfl (by kernel_rfl) (by kernel_rfl) (by kernel_rfl) (fun _ _ _ h => h) (Or.inl ⟨by rfl, ?ya15⟩) (by assumption) ?_
            case ya15 =>
              intro w hSw
              (try dsimp only at hSw)
              go_simp
              (try with_reducible rfl)
            simp only [Act.put, List.setIfInBounds_toArray, List.set_cons_zero, List.set_cons_succ]
            refine wpAnyH_take (i := 15) (oi := { dst := some 208, op := Go.Op.move (Go.Operand.tmp 29), type := 4, pos := _, after := #[{ on := 14, ground := Go.Ground.guard }], guard := some (14, true) }) (v := ?va16) rfl (by kernel_rfl) (by kernel_rfl) (by kernel_rfl) (fun _ _ _ h => h) (Or.inl ⟨by rfl, ?ya16⟩) (by assumption) ?_
            case ya16 =>
              intro w hSw
              (try dsimp only at hSw)
              go_simp
              (try with_reducible rfl)
            simp only [Act.put, List.setIfInBounds_toArray, List.set_cons_zero, List.set_cons_succ]
            refine wpAnyH_take (i := 16) (oi := { dst := some 209, op := Go.Op.move (Go.Operand.tmp 12), type := 4, pos := _, after := #[{ on := 14, ground := Go.Ground.guard }], guard := some (14, true) }) (v := ?va17) rfl (by kernel_rfl) (by kernel_rfl) (by kernel_rfl) (fun _ _ _ h => h) (Or.inl ⟨by rfl, ?ya17⟩) (by assumption) ?_
            case ya17 =>
              intro w hSw
              (try dsimp only at hSw)
              go_simp
              (try with_reducible rfl)
            simp only [Act.put, List.setIfInBounds_toArray, List.set_cons_zero, List.set_cons_succ]
            refine wpAnyH_take (i := 17) (oi := { dst := some 210, op := Go.Op.binOp Go.BinOp.eql 4 (Go.Operand.tmp 208) (Go.Operand.tmp 209) 4, type := 4, pos := _, after := #[{ on := 15, ground := Go.Ground.data }, { on := 16, ground := Go.Ground.data }, { on := 14, ground := Go.Ground.guard }], guard := some (14, true) }) (v := ?va18) rfl (by kernel_rfl) (by kernel_rfl) (by kernel_rfl) (fun _ _ _ h => h) (Or.inl ⟨by rfl, ?ya18⟩) (by assumption) ?_
            case ya18 =>
              intro w hSw
              (try dsimp only at hSw)
              go_simp
              (try with_reducible rfl)
            simp only [Act.put, List.setIfInBounds_toArray, List.set_cons_zero, List.set_cons_succ]
            refine wpAnyH_take (i := 18) (oi := { dst := some 211, op := Go.Op.pick (Go.Operand.tmp 207) (Go.Operand.tmp 210) (Go.Operand.const (Go.Value.bool false)), type := 4, pos := _, after := #[{ on := 14, ground := Go.Ground.data }, { on := 17, ground := Go.Ground.data }], guard := none }) (v := ?va19) rfl (by kernel_rfl) (by kernel_rfl) (by kernel_rfl) (fun _ _ _ h => h) (Or.inl ⟨by rfl, ?ya19⟩) (by assumption) ?_
            case ya19 =>
              intro w hSw
              (try dsimp only at hSw)
              go_simp
              (try with_reducible rfl)
            simp only [Act.put, List.setIfInBounds_toArray, List.set_cons_zero, List.set_cons_succ]
            refine wpAnyH_take (i := 19) (oi := { dst := some 212, op := Go.Op.move (Go.Operand.tmp 211), type := 4, pos := _, after := #[{ on := 18, ground := Go.Ground.data }, { on := 14, ground := Go.Ground.chain }], guard := none }) (v := ?va20) rfl (by kernel_rfl) (by kernel_rfl) (by kernel_rfl) (fun _ _ _ h => h) (Or.inl ⟨by rfl, ?ya20⟩) (by assumption) ?_
            case ya20 =>
              intro w hSw
              (try dsimp only at hSw)
              go_simp
              (try with_reducible rfl)
            simp only [Act.put, List.setIfInBounds_toArray, List.set_cons_zero, List.set_cons_succ]
            refine wpAnyH_take (i := 20) (oi := { dst := some 213, op := Go.Op.move (Go.Operand.tmp 31), type := 4, pos := _, after := #[{ on := 19, ground := Go.Ground.guard }], guard := some (19, true) }) (v := ?va21) rfl (by kernel_rfl) (by kernel_rfl) (by kernel_rfl) (fun _ _ _ h => h) (Or.inl ⟨by rfl, ?ya21⟩) (by assumption) ?_
            case ya21 =>
              intro w hSw
              (try dsimp only at hSw)
              go_simp
              (try with_reducible rfl)
            simp only [Act.put, List.setIfInBounds_toArray, List.set_cons_zero, List.set_cons_succ]
            refine wpAnyH_take (i := 21) (oi := { dst := some 214, op := Go.Op.move (Go.Operand.tmp 12), type := 4, pos := _, after := #[{ on := 19, ground := Go.Ground.guard }], guard := some (19, true) }) (v := ?va22) rfl (by kernel_rfl) (by kernel_rfl) (by kernel_rfl) (fun _ _ _ h => h) (Or.inl ⟨by rfl, ?ya22⟩) (by assumption) ?_
            case ya22 =>
              intro w hSw
              (try dsimp only at hSw)
              go_simp
              (try with_reducible rfl)
            simp only [Act.put, List.setIfInBounds_toArray, List.set_cons_zero, List.set_cons_succ]
            refine wpAnyH_take (i := 22) (oi := { dst := some 215, op := Go.Op.binOp Go.BinOp.eql 4 (Go.Operand.tmp 213) (Go.Operand.tmp 214) 4, type := 4, pos := _, after := #[{ on := 20, ground := Go.Ground.data }, { on := 21, ground := Go.Ground.data }, { on := 19, ground := Go.Ground.guard }], guard := some (19, true) }) (v := ?va23) rfl (by kernel_rfl) (by kernel_rfl) (by kernel_rfl) (fun _ _ _ h => h) (Or.inl ⟨by rfl, ?ya23⟩) (by assumption) ?_
            case ya23 =>
              intro w hSw
              (try dsimp only at hSw)
              go_simp
              (try with_reducible rfl)
            simp only [Act.put, List.setIfInBounds_toArray, List.set_cons_zero, List.set_cons_succ]
            refine wpAnyH_take (i := 23) (oi := { dst := some 216, op := Go.Op.pick (Go.Operand.tmp 212) (Go.Operand.tmp 215) (Go.Operand.const (Go.Value.bool false)), type := 4, pos := _, after := #[{ on := 19, ground := Go.Ground.data }, { on := 22, ground := Go.Ground.data }], guard := none }) (v := ?va24) rfl (by kernel_rfl) (by kernel_rfl) (by kernel_rfl) (fun _ _ _ h => h) (Or.inl ⟨by rfl, ?ya24⟩) (by assumption) ?_
            case ya24 =>
              intro w hSw
              (try dsimp only at hSw)
              go_simp
              (try with_reducible rfl)
            simp only [Act.put, List.setIfInBounds_toArray, List.set_cons_zero, List.set_cons_succ]
            refine wpAnyH_take (i := 24) (oi := { dst := some 217, op := Go.Op.move (Go.Operand.tmp 216), type := 4, pos := _, after := #[{ on := 23, ground := Go.Ground.data }, { on := 19, ground := Go.Ground.chain }], guard := none }) (v := ?va25) rfl (by kernel_rfl) (by kernel_rfl) (by kernel_rfl) (fun _ _ _ h => h) (Or.inl ⟨by rfl, ?ya25⟩) (by assumption) ?_
            case ya25 =>
              intro w hSw
              (try dsimp only at hSw)
              go_simp
              (try with_reducible rfl)
            simp only [Act.put, List.setIfInBounds_toArray, List.set_cons_zero, List.set_cons_succ]
            refine wpAnyH_take (i := 25) (oi := { dst := some 218, op := Go.Op.move (Go.Operand.tmp 33), type := 3, pos := _, after := #[{ on := 24, ground := Go.Ground.guard }], guard := some (24, true) }) (v := ?va26) rfl (by kernel_rfl) (by kernel_rfl) (by kernel_rfl) (fun _ _ _ h => h) (Or.inl ⟨by rfl, ?ya26⟩) (by assumption) ?_
            case ya26 =>
              intro w hSw
              (try dsimp only at hSw)
              go_simp
              (try with_reducible rfl)
            simp only [Act.put, List.setIfInBounds_toArray, List.set_cons_zero, List.set_cons_succ]
            refine wpAnyH_take (i := 26) (oi := { dst := some 219, op := Go.Op.move (Go.Operand.tmp 35), type := 3, pos := _, after := #[{ on := 24, ground := Go.Ground.guard }], guard := some (24, true) }) (v := ?va27) rfl (by kernel_rfl) (by kernel_rfl) (by kernel_rfl) (fun _ _ _ h => h) (Or.inl ⟨by rfl, ?ya27⟩) (by assumption) ?_
            case ya27 =>
              intro w hSw
              (try dsimp only at hSw)
              go_simp
              (try with_reducible rfl)
            simp only [Act.put, List.setIfInBounds_toArray, List.set_cons_zero, List.set_cons_succ]
            refine wpAnyH_take (i := 27) (oi := { dst := some 220, op := Go.Op.binOp Go.BinOp.eql 3 (Go.Operand.tmp 218) (Go.Operand.tmp 219) 3, type := 4, pos := _, after := #[{ on := 25, ground := Go.Ground.data }, { on := 26, ground := Go.Ground.data }, { on := 24, ground := Go.Ground.guard }], guard := some (24, true) }) (v := ?va28) rfl (by kernel_rfl) (by kernel_rfl) (by kernel_rfl) (fun _ _ _ h => h) (Or.inl ⟨by rfl, ?ya28⟩) (by assumption) ?_
            case ya28 =>
              intro w hSw
              (try dsimp only at hSw)
              go_simp
              (try with_reducible rfl)
            simp only [Act.put, List.setIfInBounds_toArray, List.set_cons_zero, List.set_cons_succ]
            refine wpAnyH_take (i := 28) (oi := { dst := some 221, op := Go.Op.pick (Go.Operand.tmp 217) (Go.Operand.tmp 220) (Go.Operand.const (Go.Value.bool false)), type := 4, pos := _, after := #[{ on := 24, ground := Go.Ground.data }, { on := 27, ground := Go.Ground.data }], guard := none }) (v := ?va29) rfl (by kernel_rfl) (by kernel_rfl) (by kernel_rfl) (fun _ _ _ h => h) (Or.inl ⟨by rfl, ?ya29⟩) (by assumption) ?_
            case ya29 =>
              intro w hSw
              (try dsimp only at hSw)
              go_simp
              (try with_reducible rfl)
            simp only [Act.put, List.setIfInBounds_toArray, List.set_cons_zero, List.set_cons_succ]
            refine wpAnyH_take (i := 29) (oi := { dst := some 222, op := Go.Op.move (Go.Operand.tmp 221), type := 4, pos := _, after := #[{ on := 28, ground := Go.Ground.data }, { on := 24, ground := Go.Ground.chain }], guard := none }) (v := ?va30) rfl (by kernel_rfl) (by kernel_rfl) (by kernel_rfl) (fun _ _ _ h => h) (Or.inl ⟨by rfl, ?ya30⟩) (by assumption) ?_
            case ya30 =>
              intro w hSw
              (try dsimp only at hSw)
              go_simp
              (try with_reducible rfl)
            simp only [Act.put, List.setIfInBounds_toArray, List.set_cons_zero, List.set_cons_succ]
            refine wpAnyH_take (i := 30) (oi := { dst := some 223, op := Go.Op.move (Go.Operand.tmp 20), type := 33, pos := _, after := #[{ on := 29, ground := Go.Ground.guard }], guard := some (29, true) }) (v := ?va31) rfl (by kernel_rfl) (by kernel_rfl) (by kernel_rfl) (fun _ _ _ h => h) (Or.inl ⟨by rfl, ?ya31⟩) (by assumption) ?_
            case ya31 =>
              intro w hSw
              (try dsimp only at hSw)
              go_simp
              (try with_reducible rfl)
            simp only [Act.put, List.setIfInBounds_toArray, List.set_cons_zero, List.set_cons_succ]
            refine wpAnyH_take (i := 31) (oi := { dst := some 224, op := Go.Op.move (Go.Operand.tmp 2), type := 3, pos := _, after := #[{ on := 29, ground := Go.Ground.guard }], guard := some (29, true) }) (v := ?va32) rfl (by kernel_rfl) (by kernel_rfl) (by kernel_rfl) (fun _ _ _ h => h) (Or.inl ⟨by rfl, ?ya32⟩) (by assumption) ?_
            case ya32 =>
              intro w hSw
              (try dsimp only at hSw)
              go_simp
              (try with_reducible rfl)
            simp only [Act.put, List.setIfInBounds_toArray, List.set_cons_zero, List.set_cons_succ]
            refine wpAnyH_take (i := 32) (oi := { dst := some 225, op := Go.Op.indexAddr 33 (Go.Operand.tmp 223) (Go.Operand.tmp 224), type := 0, pos := _, after := #[{ on := 30, ground := Go.Ground.data }, { on := 31, ground := Go.Ground.data }, { on := 29, ground := Go.Ground.guard }], guard := some (29, true) }) (v := ?va33) rfl (by kernel_rfl) (by kernel_rfl) (by kernel_rfl) (fun _ _ _ h => h) (Or.inl ⟨by rfl, ?ya33⟩) (by assumption) ?_
            case ya33 =>
              intro w hSw
              (try dsimp only at hSw)
              go_simp
              (try with_reducible rfl)
            simp only [Act.put, List.setIfInBounds_toArray, List.set_cons_zero, List.set_cons_succ]
            refine wpAnyH_take (i := 33) (oi := { dst := some 226, op := Go.Op.load 3 (Go.Operand.tmp 225), type := 3, pos := _, after := #[{ on := 32, ground := Go.Ground.data }, { on := 29, ground := Go.Ground.guard }], guard := some (29, true) }) (v := ?va34) rfl (by kernel_rfl) (by kernel_rfl) (by kernel_rfl) (fun _ _ _ h => h) (Or.inl ⟨by rfl, ?ya34⟩) (by assumption) ?_
            case ya34 =>
              intro w hSw
              (try dsimp only at hSw)
              go_simp
              (try with_reducible rfl)
            simp only [Act.put, List.setIfInBounds_toArray, List.set_cons_zero, List.set_cons_succ]
            refine wpAnyH_take (i := 34) (oi := { dst := some 227, op := Go.Op.move (Go.Operand.tmp 20), type := 33, pos := _, after := #[{ on := 29, ground := Go.Ground.guard }], guard := some (29, true) }) (v := ?va35) rfl (by kernel_rfl) (by kernel_rfl) (by kernel_rfl) (fun _ _ _ h => h) (Or.inl ⟨by rfl, ?ya35⟩) (by assumption) ?_
            case ya35 =>
              intro w hSw
              (try dsimp only at hSw)
              go_simp
              (try with_reducible rfl)
            simp only [Act.put, List.setIfInBounds_toArray, List.set_cons_zero, List.set_cons_succ]
            refine wpAnyH_take (i := 35) (oi := { dst := some 228, op := Go.Op.move (Go.Operand.tmp 3), type := 3, pos := _, after := #[{ on := 29, ground := Go.Ground.guard }], guard := some (29, true) }) (v := ?va36) rfl (by kernel_rfl) (by kernel_rfl) (by kernel_rfl) (fun _ _ _ h => h) (Or.inl ⟨by rfl, ?ya36⟩) (by assumption) ?_
            case ya36 =>
              intro w hSw
              (try dsimp only at hSw)
              go_simp
              (try with_reducible rfl)
            simp only [Act.put, List.setIfInBounds_toArray, List.set_cons_zero, List.set_cons_succ]
            refine wpAnyH_take (i := 36) (oi := { dst := some 229, op := Go.Op.indexAddr 33 (Go.Operand.tmp 227) (Go.Operand.tmp 228), type := 0, pos := _, after := #[{ on := 34, ground := Go.Ground.data }, { on := 35, ground := Go.Ground.data }, { on := 29, ground := Go.Ground.guard }], guard := some (29, true) }) (v := ?va37) rfl (by kernel_rfl) (by kernel_rfl) (by kernel_rfl) (fun _ _ _ h => h) (Or.inl ⟨by rfl, ?ya37⟩) (by assumption) ?_
            case ya37 =>
              intro w hSw
              (try dsimp only at hSw)
              go_simp
              (try with_reducible rfl)
            simp only [Act.put, List.setIfInBounds_toArray, List.set_cons_zero, List.set_cons_succ]
            refine wpAnyH_take (i := 37) (oi := { dst := some 230, op := Go.Op.load 3 (Go.Operand.tmp 229), type := 3, pos := _, after := #[{ on := 36, ground := Go.Ground.data }, { on := 29, ground := Go.Ground.guard }], guard := some (29, true) }) (v := ?va38) rfl (by kernel_rfl) (by kernel_rfl) (by kernel_rfl) (fun _ _ _ h => h) (Or.inl ⟨by rfl, ?ya38⟩) (by assumption) ?_
            case ya38 =>
              intro w hSw
              (try dsimp only at hSw)
              go_simp
              (try with_reducible rfl)
            simp only [Act.put, List.setIfInBounds_toArray, List.set_cons_zero, List.set_cons_succ]
            refine wpAnyH_take (i := 38) (oi := { dst := some 231, op := Go.Op.binOp Go.BinOp.eql 3 (Go.Operand.tmp 226) (Go.Operand.tmp 230) 3, type := 4, pos := _, after := #[{ on := 33, ground := Go.Ground.data }, { on := 37, ground := Go.Ground.data }, { on := 29, ground := Go.Ground.guard }], guard := some (29, true) }) (v := ?va39) rfl (by kernel_rfl) (by kernel_rfl) (by kernel_rfl) (fun _ _ _ h => h) (Or.inl ⟨by rfl, ?ya39⟩) (by assumption) ?_
            case ya39 =>
              intro w hSw
              (try dsimp only at hSw)
              go_simp
              (try with_reducible rfl)
            simp only [Act.put, List.setIfInBounds_toArray, List.set_cons_zero, List.set_cons_succ]
            refine wpAnyH_take (i := 39) (oi := { dst := some 232, op := Go.Op.move (Go.Operand.tmp 12), type := 4, pos := _, after := #[{ on := 29, ground := Go.Ground.guard }], guard := some (29, true) }) (v := ?va40) rfl (by kernel_rfl) (by kernel_rfl) (by kernel_rfl) (fun _ _ _ h => h) (Or.inl ⟨by rfl, ?ya40⟩) (by assumption) ?_
            case ya40 =>
              intro w hSw
              (try dsimp only at hSw)
              go_simp
              (try with_reducible rfl)
            simp only [Act.put, List.setIfInBounds_toArray, List.set_cons_zero, List.set_cons_succ]
            refine wpAnyH_take (i := 40) (oi := { dst := some 233, op := Go.Op.binOp Go.BinOp.eql 4 (Go.Operand.tmp 231) (Go.Operand.tmp 232) 4, type := 4, pos := _, after := #[{ on := 38, ground := Go.Ground.data }, { on := 39, ground := Go.Ground.data }, { on := 29, ground := Go.Ground.guard }], guard := some (29, true) }) (v := ?va41) rfl (by kernel_rfl) (by kernel_rfl) (by kernel_rfl) (fun _ _ _ h => h) (Or.inl ⟨by rfl, ?ya41⟩) (by assumption) ?_
            case ya41 =>
              intro w hSw
              (try dsimp only at hSw)
              go_simp
              (try with_reducible rfl)
            simp only [Act.put, List.setIfInBounds_toArray, List.set_cons_zero, List.set_cons_succ]
            refine wpAnyH_take (i := 41) (oi := { dst := some 234, op := Go.Op.pick (Go.Operand.tmp 222) (Go.Operand.tmp 233) (Go.Operand.const (Go.Value.bool false)), type := 4, pos := _, after := #[{ on := 29, ground := Go.Ground.data }, { on := 40, ground := Go.Ground.data }], guard := none }) (v := ?va42) rfl (by kernel_rfl) (by kernel_rfl) (by kernel_rfl) (fun _ _ _ h => h) (Or.inl ⟨by rfl, ?ya42⟩) (by assumption) ?_
            case ya42 =>
              intro w hSw
              (try dsimp only at hSw)
              go_simp
              (try with_reducible rfl)
            simp only [Act.put, List.setIfInBounds_toArray, List.set_cons_zero, List.set_cons_succ]
            refine wpAnyH_take (i := 42) (oi := { dst := some 235, op := Go.Op.move (Go.Operand.tmp 234), type := 4, pos := _, after := #[{ on := 41, ground := Go.Ground.data }, { on := 29, ground := Go.Ground.chain }], guard := none }) (v := ?va43) rfl (by kernel_rfl) (by kernel_rfl) (by kernel_rfl) (fun _ _ _ h => h) (Or.inl ⟨by rfl, ?ya43⟩) (by assumption) ?_
            case ya43 =>
              intro w hSw
              (try dsimp only at hSw)
              go_simp
              (try with_reducible rfl)
            simp only [Act.put, List.setIfInBounds_toArray, List.set_cons_zero, List.set_cons_succ]
            refine wpAnyH_take (i := 43) (oi := { dst := some 236, op := Go.Op.move (Go.Operand.tmp 26), type := 3, pos := _, after := #[{ on := 42, ground := Go.Ground.guard }], guard := some (42, true) }) (v := ?va44) rfl (by kernel_rfl) (by kernel_rfl) (by kernel_rfl) (fun _ _ _ h => h) (Or.inl ⟨by rfl, ?ya44⟩) (by assumption) ?_
            case ya44 =>
              intro w hSw
              (try dsimp only at hSw)
              go_simp
              (try with_reducible rfl)
            simp only [Act.put, List.setIfInBounds_toArray, List.set_cons_zero, List.set_cons_succ]
            refine wpAnyH_take (i := 44) (oi := { dst := some 237, op := Go.Op.move (Go.Operand.tmp 10), type := 24, pos := _, after := #[{ on := 42, ground := Go.Ground.guard }], guard := some (42, true) }) (v := ?va45) rfl (by kernel_rfl) (by kernel_rfl) (by kernel_rfl) (fun _ _ _ h => h) (Or.inl ⟨by rfl, ?ya45⟩) (by assumption) ?_
            case ya45 =>
              intro w hSw
              (try dsimp only at hSw)
              go_simp
              (try with_reducible rfl)
            simp only [Act.put, List.setIfInBounds_toArray, List.set_cons_zero, List.set_cons_succ]
            refine wpAnyH_ready (rs := [45]) (by kernel_rfl) (by simp) ?_
            refine (AllReadyH.cons rfl (fun K9 hK9 => ?ca64) AllReadyH.nil)
            case ca64 =>
              go_simp
              go_wp2_with (go_at_call 23; refine (HS7.out _ hHeld.1).mono ?_; rintro e w17 ⟨rfl, hb17⟩)
              refine hK9.out _ _ ⟨hHeld.1.trans (hb17.mono hHeld.1.size), cell_keep hb17 hHeld.2.1, cell_keep hb17 hHeld.2.2⟩ (fun hHeld => ?_)
              clear hK9
              (try simp only [Act.put, List.setIfInBounds_toArray, List.set_cons_zero, List.set_cons_succ])
              refine wpAnyH_take (i := 46) (oi := { dst := some 239, op := Go.Op.binOp Go.BinOp.eql 3 (Go.Operand.tmp 236) (Go.Operand.tmp 238) 3, type := 4, pos := _, after := #[{ on := 43, ground := Go.Ground.data }, { on := 45, ground := Go.Ground.data }, { on := 42, ground := Go.Ground.guard }], guard := some (42, true) }) (v := ?va46) rfl (by kernel_rfl) (by kernel_rfl) (by kernel_rfl) (fun _ _ _ h => h) (Or.inl ⟨by rfl, ?ya46⟩) (by assumption) ?_
              case ya46 =>
                intro w hSw
                (try dsimp only at hSw)
                go_simp
                (try with_reducible rfl)
              simp only [Act.put, List.setIfInBounds_toArray, List.set_cons_zero, List.set_cons_succ]
              refine wpAnyH_take (i := 47) (oi := { dst := some 240, op := Go.Op.pick (Go.Operand.tmp 235) (Go.Operand.tmp 239) (Go.Operand.const (Go.Value.bool false)), type := 4, pos := _, after := #[{ on := 42, ground := Go.Ground.data }, { on := 46, ground := Go.Ground.data }], guard := none }) (v := ?va47) rfl (by kernel_rfl) (by kernel_rfl) (by kernel_rfl) (fun _ _ _ h => h) (Or.inl ⟨by rfl, ?ya47⟩) (by assumption) ?_
              case ya47 =>
                intro w hSw
                (try dsimp only at hSw)
                go_simp
                (try with_reducible rfl)
              simp only [Act.put, List.setIfInBounds_toArray, List.set_cons_zero, List.set_cons_succ]
              refine wpAnyH_take (i := 48) (oi := { dst := some 241, op := Go.Op.move (Go.Operand.tmp 240), type := 4, pos := _, after := #[{ on := 47, ground := Go.Ground.data }, { on := 45, ground := Go.Ground.chain }], guard := none }) (v := ?va48) rfl (by kernel_rfl) (by kernel_rfl) (by kernel_rfl) (fun _ _ _ h => h) (Or.inl ⟨by rfl, ?ya48⟩) (by assumption) ?_
              case ya48 =>
                intro w hSw
                (try dsimp only at hSw)
                go_simp
                (try with_reducible rfl)
              simp only [Act.put, List.setIfInBounds_toArray, List.set_cons_zero, List.set_cons_succ]
              refine wpAnyH_take (i := 49) (oi := { dst := some 242, op := Go.Op.move (Go.Operand.tmp 22), type := 37, pos := _, after := #[{ on := 48, ground := Go.Ground.guard }], guard := some (48, true) }) (v := ?va49) rfl (by kernel_rfl) (by kernel_rfl) (by kernel_rfl) (fun _ _ _ h => h) (Or.inl ⟨by rfl, ?ya49⟩) (by assumption) ?_
              case ya49 =>
                intro w hSw
                (try dsimp only at hSw)
                go_simp
                (try with_reducible rfl)
              simp only [Act.put, List.setIfInBounds_toArray, List.set_cons_zero, List.set_cons_succ]
              refine wpAnyH_take (i := 51) (oi := { dst := some 244, op := Go.Op.move (Go.Operand.tmp 26), type := 3, pos := _, after := #[{ on := 48, ground := Go.Ground.guard }], guard := some (48, true) }) (v := ?va50) rfl (by kernel_rfl) (by kernel_rfl) (by kernel_rfl) (fun _ _ _ h => h) (Or.inl ⟨by rfl, ?ya50⟩) (by assumption) ?_
              case ya50 =>
                intro w hSw
                (try dsimp only at hSw)
                go_simp
                (try with_reducible rfl)
              simp only [Act.put, List.setIfInBounds_toArray, List.set_cons_zero, List.set_cons_succ]
              refine wpAnyH_ready (rs := [50]) (by kernel_rfl) (by simp) ?_
              refine (AllReadyH.cons rfl (fun K9 hK9 => ?ca63) AllReadyH.nil)
              case ca63 =>
                go_simp
                go_wp2_with (go_at_call 24; refine (HS4.out _ hHeld.1).mono ?_; rintro e w18 ⟨rfl, hb18⟩)
                refine hK9.out _ _ ⟨hHeld.1.trans (hb18.mono hHeld.1.size), cell_keep hb18 hHeld.2.1, cell_keep hb18 hHeld.2.2⟩ (fun hHeld => ?_)
                clear hK9
                (try simp only [Act.put, List.setIfInBounds_toArray, List.set_cons_zero, List.set_cons_succ])
                refine wpAnyH_take (i := 52) (oi := { dst := some 245, op := Go.Op.binOp Go.BinOp.eql 3 (Go.Operand.tmp 243) (Go.Operand.tmp 244) 3, type := 4, pos := _, after := #[{ on := 50, ground := Go.Ground.data }, { on := 51, ground := Go.Ground.data }, { on := 48, ground := Go.Ground.guard }], guard := some (48, true) }) (v := ?va51) rfl (by kernel_rfl) (by kernel_rfl) (by kernel_rfl) (fun _ _ _ h => h) (Or.inl ⟨by rfl, ?ya51⟩) (by assumption) ?_
                case ya51 =>
                  intro w hSw
                  (try dsimp only at hSw)
                  go_simp
                  (try with_reducible rfl)
                simp only [Act.put, List.setIfInBounds_toArray, List.set_cons_zero, List.set_cons_succ]
                refine wpAnyH_take (i := 53) (oi := { dst := some 246, op := Go.Op.pick (Go.Operand.tmp 241) (Go.Operand.tmp 245) (Go.Operand.const (Go.Value.bool false)), type := 4, pos := _, after := #[{ on := 48, ground := Go.Ground.data }, { on := 52, ground := Go.Ground.data }], guard := none }) (v := ?va52) rfl (by kernel_rfl) (by kernel_rfl) (by kernel_rfl) (fun _ _ _ h => h) (Or.inl ⟨by rfl, ?ya52⟩) (by assumption) ?_
                case ya52 =>
                  intro w hSw
                  (try dsimp only at hSw)
                  go_simp
                  (try with_reducible rfl)
                simp only [Act.put, List.setIfInBounds_toArray, List.set_cons_zero, List.set_cons_succ]
                refine wpAnyH_take (i := 54) (oi := { dst := some 247, op := Go.Op.move (Go.Operand.tmp 246), type := 4, pos := _, after := #[{ on := 53, ground := Go.Ground.data }, { on := 50, ground := Go.Ground.chain }], guard := none }) (v := ?va53) rfl (by kernel_rfl) (by kernel_rfl) (by kernel_rfl) (fun _ _ _ h => h) (Or.inl ⟨by rfl, ?ya53⟩) (by assumption) ?_
                case ya53 =>
                  intro w hSw
                  (try dsimp only at hSw)
                  go_simp
                  (try with_reducible rfl)
                simp only [Act.put, List.setIfInBounds_toArray, List.set_cons_zero, List.set_cons_succ]
                refine wpAnyH_take (i := 55) (oi := { dst := some 248, op := Go.Op.move (Go.Operand.tmp 0), type := 3, pos := _, after := #[{ on := 54, ground := Go.Ground.guard }], guard := some (54, true) }) (v := ?va54) rfl (by kernel_rfl) (by kernel_rfl) (by kernel_rfl) (fun _ _ _ h => h) (Or.inl ⟨by rfl, ?ya54⟩) (by assumption) ?_
                case ya54 =>
                  intro w hSw
                  (try dsimp only at hSw)
                  go_simp
                  (try with_reducible rfl)
                simp only [Act.put, List.setIfInBounds_toArray, List.set_cons_zero, List.set_cons_succ]
                refine wpAnyH_take (i := 56) (oi := { dst := some 249, op := Go.Op.move (Go.Operand.tmp 24), type := 40, pos := _, after := #[{ on := 54, ground := Go.Ground.guard }], guard := some (54, true) }) (v := ?va55) rfl (by kernel_rfl) (by kernel_rfl) (by kernel_rfl) (fun _ _ _ h => h) (Or.inl ⟨by rfl, ?ya55⟩) (by assumption) ?_
                case ya55 =>
                  intro w hSw
                  (try dsimp only at hSw)
                  go_simp
                  (try with_reducible rfl)
                simp only [Act.put, List.setIfInBounds_toArray, List.set_cons_zero, List.set_cons_succ]
                refine wpAnyH_take (i := 60) (oi := { dst := some 253, op := Go.Op.move (Go.Operand.tmp 26), type := 3, pos := _, after := #[{ on := 54, ground := Go.Ground.guard }], guard := some (54, true) }) (v := ?va56) rfl (by kernel_rfl) (by kernel_rfl) (by kernel_rfl) (fun _ _ _ h => h) (Or.inl ⟨by rfl, ?ya56⟩) (by assumption) ?_
                case ya56 =>
                  intro w hSw
                  (try dsimp only at hSw)
                  go_simp
                  (try with_reducible rfl)
                simp only [Act.put, List.setIfInBounds_toArray, List.set_cons_zero, List.set_cons_succ]
                refine wpAnyH_ready (rs := [57]) (by kernel_rfl) (by simp) ?_
                refine (AllReadyH.cons rfl (fun K9 hK9 => ?ca62) AllReadyH.nil)
                case ca62 =>
                  go_simp
                  go_wp2_with (go_at_call 25; refine (HS5.out _ hHeld.1).mono ?_; rintro e w19 ⟨⟨a19, c19, rfl⟩, hb19⟩)
                  refine hK9.out _ _ ⟨hHeld.1.trans (hb19.mono hHeld.1.size), cell_keep hb19 hHeld.2.1, cell_keep hb19 hHeld.2.2⟩ (fun hHeld => ?_)
                  clear hK9
                  (try simp only [Act.put, List.setIfInBounds_toArray, List.set_cons_zero, List.set_cons_succ])
                  refine wpAnyH_take (i := 58) (oi := { dst := some 251, op := Go.Op.call { callee := Go.Callee.builtin Go.Builtin.len, args := #[Go.Operand.tmp 250], argTypes := #[31] }, type := 3, pos := _, after := #[{ on := 57, ground := Go.Ground.data }, { on := 54, ground := Go.Ground.guard }], guard := some (54, true) }) (v := ?va57) rfl (by kernel_rfl) (by kernel_rfl) (by kernel_rfl) (fun _ _ _ h => h) (Or.inl ⟨by rfl, ?ya57⟩) (by assumption) ?_
                  case ya57 =>
                    intro w hSw
                    (try dsimp only at hSw)
                    go_simp
                    (try with_reducible rfl)
                  simp only [Act.put, List.setIfInBounds_toArray, List.set_cons_zero, List.set_cons_succ]
                  refine wpAnyH_take (i := 59) (oi := { dst := some 252, op := Go.Op.binOp Go.BinOp.sub 3 (Go.Operand.tmp 248) (Go.Operand.tmp 251) 3, type := 3, pos := _, after := #[{ on := 55, ground := Go.Ground.data }, { on := 58, ground := Go.Ground.data }, { on := 54, ground := Go.Ground.guard }], guard := some (54, true) }) (v := ?va58) rfl (by kernel_rfl) (by kernel_rfl) (by kernel_rfl) (fun _ _ _ h => h) (Or.inl ⟨by rfl, ?ya58⟩) (by assumption) ?_
                  case ya58 =>
                    intro w hSw
                    (try dsimp only at hSw)
                    go_simp
                    (try with_reducible rfl)
                  simp only [Act.put, List.setIfInBounds_toArray, List.set_cons_zero, List.set_cons_succ]
                  refine wpAnyH_take (i := 61) (oi := { dst := some 254, op := Go.Op.binOp Go.BinOp.eql 3 (Go.Operand.tmp 252) (Go.Operand.tmp 253) 3, type := 4, pos := _, after := #[{ on := 59, ground := Go.Ground.data }, { on := 60, ground := Go.Ground.data }, { on := 54, ground := Go.Ground.guard }], guard := some (54, true) }) (v := ?va59) rfl (by kernel_rfl) (by kernel_rfl) (by kernel_rfl) (fun _ _ _ h => h) (Or.inl ⟨by rfl, ?ya59⟩) (by assumption) ?_
                  case ya59 =>
                    intro w hSw
                    (try dsimp only at hSw)
                    go_simp
                    (try with_reducible rfl)
                  simp only [Act.put, List.setIfInBounds_toArray, List.set_cons_zero, List.set_cons_succ]
                  refine wpAnyH_take (i := 62) (oi := { dst := some 255, op := Go.Op.pick (Go.Operand.tmp 247) (Go.Operand.tmp 254) (Go.Operand.const (Go.Value.bool false)), type := 4, pos := _, after := #[{ on := 54, ground := Go.Ground.data }, { on := 61, ground := Go.Ground.data }], guard := none }) (v := ?va60) rfl (by kernel_rfl) (by kernel_rfl) (by kernel_rfl) (fun _ _ _ h => h) (Or.inl ⟨by rfl, ?ya60⟩) (by assumption) ?_
                  case ya60 =>
                    intro w hSw
                    (try dsimp only at hSw)
                    go_simp
                    (try with_reducible rfl)
                  simp only [Act.put, List.setIfInBounds_toArray, List.set_cons_zero, List.set_cons_succ]
                  refine wpAnyH_take (i := 63) (oi := { dst := some 8, op := Go.Op.assign (Go.Operand.tmp 255), type := 4, pos := _, after := ([{ on := 62, ground := Go.Ground.data }, { on := 57, ground := Go.Ground.chain }, { on := 0, ground := Go.Ground.phase }, { on := 1, ground := Go.Ground.phase }, { on := 2, ground := Go.Ground.phase }, { on := 3, ground := Go.Ground.phase }, { on := 4, ground := Go.Ground.phase }, { on := 5, ground := Go.Ground.phase }, { on := 6, ground := Go.Ground.phase }, { on := 7, ground := Go.Ground.phase }, { on := 8, ground := Go.Ground.phase }, { on := 9, ground := Go.Ground.phase }, { on := 10, ground := Go.Ground.phase }, { on := 11, ground := Go.Ground.phase }, { on := 12, ground := Go.Ground.phase }, { on := 13, ground := Go.Ground.phase }, { on := 14, ground := Go.Ground.phase }, { on := 15, ground := Go.Ground.phase }, { on := 16, ground := Go.Ground.phase }, { on := 17, ground := Go.Ground.phase }, { on := 18, ground := Go.Ground.phase }, { on := 19, ground := Go.Ground.phase }, { on := 20, ground := Go.Ground.phase }, { on := 21, ground := Go.Ground.phase }, { on := 22, ground := Go.Ground.phase }, { on := 23, ground := Go.Ground.phase }, { on := 24, ground := Go.Ground.phase }, { on := 25, ground := Go.Ground.phase }, { on := 26, ground := Go.Ground.phase }, { on := 27, ground := Go.Ground.phase }, { on := 28, ground := Go.Ground.phase }, { on := 29, ground := Go.Ground.phase }].append [{ on := 30, ground := Go.Ground.phase }, { on := 31, ground := Go.Ground.phase }, { on := 32, ground := Go.Ground.phase }, { on := 33, ground := Go.Ground.phase }, { on := 34, ground := Go.Ground.phase }, { on := 35, ground := Go.Ground.phase }, { on := 36, ground := Go.Ground.phase }, { on := 37, ground := Go.Ground.phase }, { on := 38, ground := Go.Ground.phase }, { on := 39, ground := Go.Ground.phase }, { on := 40, ground := Go.Ground.phase }, { on := 41, ground := Go.Ground.phase }, { on := 42, ground := Go.Ground.phase }, { on := 43, ground := Go.Ground.phase }, { on := 44, ground := Go.Ground.phase }, { on := 45, ground := Go.Ground.phase }, { on := 46, ground := Go.Ground.phase }, { on := 47, ground := Go.Ground.phase }, { on := 48, ground := Go.Ground.phase }, { on := 49, ground := Go.Ground.phase }, { on := 50, ground := Go.Ground.phase }, { on := 51, ground := Go.Ground.phase }, { on := 52, ground := Go.Ground.phase }, { on := 53, ground := Go.Ground.phase }, { on := 54, ground := Go.Ground.phase }, { on := 55, ground := Go.Ground.phase }, { on := 56, ground := Go.Ground.phase }, { on := 57, ground := Go.Ground.phase }, { on := 58, ground := Go.Ground.phase }, { on := 59, ground := Go.Ground.phase }, { on := 60, ground := Go.Ground.phase }, { on := 61, ground := Go.Ground.phase }, { on := 62, ground := Go.Ground.phase }]).toArray, guard := none }) (v := ?va61) rfl (by kernel_rfl) (by kernel_rfl) (by kernel_rfl) (fun _ _ _ h => h) (Or.inl ⟨by rfl, ?ya61⟩) (by assumption) ?_
                  case ya61 =>
                    intro w hSw
                    (try dsimp only at hSw)
                    go_simp
                    (try with_reducible rfl)
                  simp only [Act.put, List.setIfInBounds_toArray, List.set_cons_zero, List.set_cons_succ]
                  refine wpAnyH_done (by kernel_rfl) ?_ _
                  refine NoPanic.normal ?_
                  go_wp2_with fail
                  go_ret
                  exact ⟨rfl, HW.out _ hHeld.1⟩
  | false =>
    obtain ⟨a1, c1, t1, y1, rfl, hb6, hd1⟩ := HS1.out.resolve_left fun ⟨_, _, _, _, _, h⟩ => (by have := HI.out.2 (dist_conn h); cases this)
    have H6 : Hid (Dr w1 G A w6 ∧ Li G w6 al N ca A ∧ Li G w6 at' NT ct T) := ⟨H5.out.1.step hb6, H5.out.2.1.below hb6, H5.out.2.2.below hb6⟩
    clear hb6 hd1 H5 HS1
    go_wp2_with fail
    refine (HR.out (c := ct) H6.out.2.2.eg H6.out.2.2.le H6.out.2.2.max HT.out.1 HN.out.1 HN.out.2.1).mono ?_
    rintro e w7 hs2
    rw [HT.out.2.1] at hs2
    obtain ⟨a2, c2, t2, y2, rfl, hb7, hd2⟩ := hs2.resolve_left fun ⟨_, _, _, _, _, h⟩ => (by have := HI.out.2 ((HT.out.2.2.2 a b).1 (dist_conn h)); cases this)
    have H7 : Hid (Dr w1 G A w7 ∧ Li G w7 al N ca A) := ⟨H6.out.1.step hb7, H6.out.2.1.below hb7⟩
    clear hb7 hd2 hs2 H6
    go_wp2_with fail
    refine (Br.parts_ok (c := ca) H7.out.2.eg (H7.out.1.valid HA.out.1) (p := p) (by rw [fn_edges HA.out.1]; exact HP.out)).mono ?_
    rintro e w8 ⟨kp, cp, rfl, hIp, hb8⟩
    have H8 : Hid (Dr w1 G A w8 ∧ Li G w8 al N ca A ∧ ∀ i, i < G.n → w8.cell? ⟨kp, i, none⟩ = some (.int .i64 ((p i : Nat) : Int))) := by
      refine ⟨H7.out.1.step hb8, H7.out.2.below hb8, fun i hi => ?_⟩
      obtain ⟨b', o', e, hc⟩ := hIp.cell i hi
      cases e
      rw [Nat.zero_add] at hc
      rw [hc]
      simp [Br.parts, List.getD_eq_getElem?_getD, hi]
    clear hb8 hIp H7
    go_wp2_with fail
    refine (new_two (w0 := w8) (Below.refl _ _) G.n HN.out.2.2.1 HN.out.2.2.2 (nth A)).mono ?_
    rintro e w9 ⟨g, F, rfl, hb9, hu, hF⟩
    have H9 : Hid (Below w8.heap.size w8 w9 ∧ UG w8 G.n (nth A) [] w9 g F) := ⟨hb9, hu⟩
    clear hb9 hu hF
    go_wp2_with fail
    refine (fnew_any G.n HN.out.2.2.1 HN.out.2.2.2 zok0).mono ?_
    rintro e w10 ⟨L, rfl, hb10, hf, hLn, hLF⟩
    have H10 : Hid (TW w8 G.n A [] 0 w10 g L) := ⟨⟨F, H9.out.2.below hb10, fun k hk hF => by have := (H9.out.2.lt hF).1; have := hLF k (Or.inl hk); omega⟩, ⟨[], _, hf, fun x y => Iff.rfl⟩, fun k hk => Nat.le_trans H9.out.1.size (hLF k (Or.inl hk)), hLn, H9.out.1.trans (hb10.mono H9.out.1.size)⟩
    clear hb10 hf hLn hLF H9
    go_wp2_with fail
    go_loopw [26, 27] (fun v i wr => ∃ j : Nat, j ≤ G.n ∧ i = .int .i64 (j : Nat) ∧ v = .int .i64 ((cnt j (fun i => decide (p i = i)) : Nat) : Int) ∧ wr = w10) (fun _ i _ => G.n - (intOf i).toNat)
    case atStart => exact ⟨0, Nat.zero_le _, rfl, rfl, rfl⟩
    case round =>
      obtain ⟨j, hj, rfl, rfl, rfl⟩ := hrel
      have hn60 := HN.out.2.2
      have hcj : cnt j (fun i => decide (p i = i)) ≤ j := cnt_le _ _
      have hcs := cnt_succ j (fun i => decide (p i = i))
      obtain ⟨cj, hcj'⟩ : ∃ cj, cnt j (fun i => decide (p i = i)) = cj := ⟨_, rfl⟩
      by_cases hlt : j < G.n
      · have q0 := cell_keep H10.out.below (H8.out.2.2 j hlt)
        rw [hcj'] at hcj hcs ⊢
        obtain ⟨y, hy⟩ : ∃ y, p j = y := ⟨_, rfl⟩
        rw [hy] at q0 hcs
        have i0 : (0 : Int) ≤ (j : Int) := by omega
        have i1 : (j : Int) < (G.n : Int) := by omega
        have j5 : IntKind.i64.wrap ((j : Int) + 1) = (j : Int) + 1 := by rw [IntKind.wrap_i64]; omega
        have c5 : IntKind.i64.wrap ((cj : Int) + 1) = ((cj + 1 : Nat) : Int) := by rw [IntKind.wrap_i64]; omega
        have HCJ : Hid (cnt j (fun i => decide (p i = i)) = cj) := hcj'
        clear hy hcj'
        by_cases hyj : y = j
        · have s0 : ((y : Int) == (j : Int)) = true := by rw [hyj]; exact beq_self_eq_true _
          have HC : Hid (cnt (j + 1) (fun i => decide (p i = i)) = cj + 1) := show _ = _ by rw [hcs]; simp [hyj]
          clear hcs hyj
          go_wp2_with fail
          go_roundw
          case rel => exact ⟨j + 1, by omega, by go_num, by (rw [HC.out]; first | done | rfl | (push_cast; rfl)), by trivial⟩
          case measure => simp [intOf]; omega
        · have s0 : ((y : Int) == (j : Int)) = false := by rw [beq_eq_false_iff_ne]; omega
          have HC : Hid (cnt (j + 1) (fun i => decide (p i = i)) = cj) := show _ = _ by rw [hcs]; simp [hyj]
          clear hcs hyj
          go_wp2_with fail
          go_roundw
          case rel => exact ⟨j + 1, by omega, by go_num, by (rw [HC.out]; first | done | rfl | (push_cast; rfl)), by trivial⟩
          case measure => simp [intOf]; omega
      · have hjn : j = G.n := by omega
        have i1 : ¬ (j : Int) < (G.n : Int) := by omega
        have HK : Hid (partsOf G.n p = cj ∧ cj ≤ 60) := ⟨by rw [← hcj', hjn]; rfl, by omega⟩
        rw [hcj']
        clear hcj' hcs hcj hjn hlt hj hn60
        go_wp2_with fail
        clear i1
        go_loopw [28] (fun i wr => ∃ j : Nat, j ≤ N ∧ i = .int .i64 (j : Nat) ∧ TW w8 G.n A (List.range j) j wr g L) (fun i _ => N - (intOf i).toNat)
        case atStart => exact ⟨0, Nat.zero_le _, rfl, H10.out⟩
        case round =>
          clear H10
          obtain ⟨i, hi, rfl, ht⟩ := hrel
          have HL : Hid (TW w8 G.n A (List.range i) i wr g L) := ht
          have hm := HA.out.2.1
          clear ht
          by_cases hlt : i < N
          · have hil : i < A.length := by rw [HA.out.1]; exact hlt
            obtain ⟨bl, rfl, c0, c1⟩ := (H8.out.2.1.below HL.out.below).at_.cell i hil
            obtain ⟨x0, hx0⟩ : ∃ x0, (nth A i).1 = x0 := ⟨_, rfl⟩
            obtain ⟨x1, hx1⟩ : ∃ x1, (nth A i).2 = x1 := ⟨_, rfl⟩
            have e0 : (A.getD i (0, 0)).1 = x0 := hx0
            have e1 : (A.getD i (0, 0)).2 = x1 := hx1
            rw [e0] at c0
            rw [e1] at c1
            have HC : Hid (∀ w', Below w8.heap.size w8 w' → w'.cell? ⟨bl, i * 2, none⟩ = some (.int .i64 (x0 : Nat)) ∧ w'.cell? ⟨bl, i * 2 + 1, none⟩ = some (.int .i64 (x1 : Nat))) := fun w' h => by
              obtain ⟨b', e, q0, q1⟩ := (H8.out.2.1.below h).at_.cell i hil
              cases e
              rw [e0] at q0
              rw [e1] at q1
              exact ⟨q0, q1⟩
            have hin : (nth A i).1 < G.n ∧ (nth A i).2 < G.n := by
              have := HA.out.2.2 (nth A i) (by rw [nth_get hil]; exact List.getElem_mem hil)
              exact ⟨by omega, this.2⟩
            have HJ : Hid (Calls Tryz.prog 17 #[.pointer (some ⟨g, 0, none⟩), .int .i64 (x0 : Nat), .int .i64 (x1 : Nat)] wr.drew fun e w' => ∃ v, e = .returned v ∧ (w'.cell? ⟨bl, i * 2, none⟩ = some (.int .i64 (x0 : Nat)) ∧ w'.cell? ⟨bl, i * 2 + 1, none⟩ = some (.int .i64 (x1 : Nat))) ∧ Hid (TW w8 G.n A (List.range (i + 1)) i w' g L)) := by
              have := (HL.out.step ((Below.refl _ _).drew : Below wr.heap.size wr wr.drew)).join i
              rw [hx0, hx1] at this
              refine this.mono ?_
              rintro e w' ⟨v, rfl, h2⟩
              refine ⟨v, rfl, HC.out w' h2.below, ?_⟩
              rw [List.range_succ]
              exact h2
            have HJ2 : Hid (∀ w', TW w8 G.n A (List.range (i + 1)) i w' g L → Calls Tryz.prog 18 #[.pointer (some ⟨L.g, 0, none⟩), .int .i64 (x0 : Nat), .int .i64 (x1 : Nat)] w'.drew fun e w'' => ∃ v, e = .returned v ∧ (w''.cell? ⟨bl, i * 2, none⟩ = some (.int .i64 (x0 : Nat)) ∧ w''.cell? ⟨bl, i * 2 + 1, none⟩ = some (.int .i64 (x1 : Nat))) ∧ Hid (TW w8 G.n A (List.range (i + 1)) (i + 1) w'' g L)) := fun w' h => by
              have := (h.step ((Below.refl _ _).drew : Below w'.heap.size w' w'.drew)).link hil hin
              rw [hx0, hx1] at this
              refine this.mono ?_
              rintro e w'' ⟨v, rfl, h2⟩
              exact ⟨v, rfl, HC.out w'' h2.below, h2⟩
            have i0 : (0 : Int) ≤ (i : Int) := by omega
            have i1 : (i : Int) < (N : Int) := by omega
            have j5 : IntKind.i64.wrap ((i : Int) + 1) = (i : Int) + 1 := by rw [IntKind.wrap_i64]; omega
            clear hx0 hx1 e0 e1 hin hil hm
            go_wp2_with fail
            go_region_held3 (fun V => V.cell? ⟨bl, i * 2, none⟩ = some (.int .i64 (x0 : Nat)) ∧ V.cell? ⟨bl, i * 2 + 1, none⟩ = some (.int .i64 (x1 : Nat))) (first | (go_keep; done) | exact ⟨c0, c1⟩)
              (first | (go_at_call 17; refine HJ.out.mono ?_; rintro e w11 ⟨v11, rfl, s11, H11⟩))
            obtain ⟨c0, c1⟩ := s11
            have HJ3 := HJ2.out w11 H11.out
            go_wp2_with fail
            go_region_held3 (fun V => V.cell? ⟨bl, i * 2, none⟩ = some (.int .i64 (x0 : Nat)) ∧ V.cell? ⟨bl, i * 2 + 1, none⟩ = some (.int .i64 (x1 : Nat))) (first | (go_keep; done) | exact ⟨c0, c1⟩)
              (first | (go_at_call 18; refine HJ3.mono ?_; rintro e w12 ⟨v12, rfl, s12, H12⟩))
            clear HJ3
            go_wp2_with fail
            go_roundw
            case rel => exact ⟨i + 1, by omega, by go_num, H12.out⟩
            case measure => simp [intOf]; omega
          · have hiN : i = A.length := by rw [HA.out.1]; omega
            have i1 : ¬ (i : Int) < (N : Int) := by omega
            obtain ⟨F, hug, -⟩ := HL.out.un
            obtain ⟨E, r, hfa, hEc⟩ := HL.out.fo
            have HLn : Hid (L.n = G.n ∧ Below w8.heap.size w8 wr) := ⟨HL.out.ln, HL.out.below⟩
            have hall : (List.range i).map (nth A) = A := by rw [range_nth A i (by omega), hiN, List.take_length]
            have hin : ∀ k ∈ List.range i, (nth A k).1 < G.n ∧ (nth A k).2 < G.n := fun k hk => by
              have hk' : k < A.length := by have := List.mem_range.1 hk; omega
              have := HA.out.2.2 (nth A k) (by rw [nth_get hk']; exact List.getElem_mem hk')
              exact ⟨by omega, this.2⟩
            rw [hiN, List.take_length] at hEc
            obtain ⟨M, hua, hgen⟩ := hug
            have hrt : ∀ x y, rt M x = rt M y ↔ Conn A x y := fun x y => by
              have := gen_conn hin hgen x y
              rw [hall] at this
              exact this
            have hlk := hua.linked
            have HS1 : Hid (∀ w', Below wr.heap.size wr w' → Calls Tryz.prog 19 #[.pointer (some ⟨g, 0, none⟩), .int .i64 (a : Nat), .int .i64 (b : Nat)] w' fun e w'' => e = .returned (.tuple #[.bool false, .nilIface]) ∧ Below w'.heap.size w' w'') := fun w' h => by
              have h1 := Un.same_u (hua.below h) a b HN.out.1 HN.out.2.1
              have h2 : decide (rt M a = rt M b) = false := by
                have h3 := HI.out
                rw [← hrt a b] at h3
                simpa using h3
              rw [h2] at h1
              exact h1
            have HS2 : Hid (∀ w', Below wr.heap.size wr w' → Calls Tryz.prog 20 #[.pointer (some ⟨L.g, 0, none⟩), .int .i64 (a : Nat), .int .i64 (b : Nat)] w' fun e w'' => e = .returned (.tuple #[.bool false, .nilIface]) ∧ Below w'.heap.size w' w'') := fun w' h => by
              have h1 := same_any (hfa.below h) a b (by rw [HLn.out.1]; exact HN.out.1) (by rw [HLn.out.1]; exact HN.out.2.1)
              have h2 : decide (r a = r b) = false := by
                have h3 := HI.out
                rw [← hEc a b, ← hfa.grown.rest.same a b] at h3
                simpa using h3
              rw [h2] at h1
              exact h1
            obtain ⟨K, hK⟩ : ∃ K, cnt G.n (fun x => decide (p x = p a)) = K := ⟨_, rfl⟩
            have HS3 : Hid (∀ w', Below wr.heap.size wr w' → Calls Tryz.prog 21 #[.pointer (some ⟨g, 0, none⟩), .int .i64 (a : Nat)] w' fun e w'' => e = .returned (.tuple #[.int .i64 (K : Nat), .nilIface]) ∧ Below w'.heap.size w' w'') := fun w' h => by
              have h1 := Un.size_u (hua.below h) a HN.out.1
              rw [cz_count hlk.1 (rt M a) (rt_lt hlk.1 a HN.out.1) (rt_rt hlk.1 a), show cnt G.n (fun i => decide (rt M i = rt M a)) = K by
                rw [← hK]
                refine cnt_congr _ fun x _ => ?_
                rw [Bool.eq_iff_iff, decide_eq_true_iff, decide_eq_true_iff, hrt, HP.out.same]] at h1
              exact h1
            have HS4 : Hid (∀ w', Below wr.heap.size wr w' → Calls Tryz.prog 24 #[.pointer (some ⟨g, 0, none⟩)] w' fun e w'' => e = .returned (.int .i64 (cj : Nat)) ∧ Below w'.heap.size w' w'') := fun w' h => by
              have h1 := Un.parts_u (hua.below h)
              rw [roots_parts hlk.1 HP.out hrt, HK.out.1] at h1
              exact h1
            have HS5 : Hid (∀ w', Below wr.heap.size wr w' → Calls Tryz.prog 25 #[.pointer (some ⟨L.g, 0, none⟩)] w' fun e w'' => (∃ a' c', e = .returned (.slice a' E.length c')) ∧ Below w'.heap.size w' w'') := fun w' h => by
              refine (fedges_any (hfa.below h)).mono ?_
              rintro e w'' ⟨a', c', rfl, hb, -⟩
              exact ⟨⟨a', c', rfl⟩, hb⟩
            have HEn : Hid (cj + E.length = G.n) := show _ = _ by
              have h1 := (forest_parts (n := G.n) (fun e he => by have := hfa.grown.among e he; rw [HLn.out.1] at this; exact this) hfa.grown.rest).2.1 hfa.grown.forest
              have h2 : partsOf G.n r = partsOf G.n p := cnt_congr _ fun x _ => by rw [hfa.grown.rest.one HP.out hEc]
              rw [h2, HK.out.1] at h1
              exact h1
            have HD : Hid (∀ w', Below wr.heap.size wr w' → Dr w1 G A w') := fun w' h => H8.out.1.step (HLn.out.2.trans (h.mono HLn.out.2.size))
            have HS6 : Hid (∀ w', Below wr.heap.size wr w' → Calls Tryz.prog 22 #[.pointer (some ⟨G.g, 0, none⟩), .int .i64 (a : Nat)] w' fun e w'' => e = .returned (.tuple #[.int .i64 (K : Nat), .nilIface]) ∧ Below w'.heap.size w' w'') := fun w' h => dr_size (HD.out w' h) HP.out a HN.out.1 K hK
            have HS7 : Hid (∀ w', Below wr.heap.size wr w' → Calls Tryz.prog 23 #[.pointer (some ⟨G.g, 0, none⟩)] w' fun e w'' => e = .returned (.int .i64 (cj : Nat)) ∧ Below w'.heap.size w' w'') := fun w' h => dr_parts (HD.out w' h) HP.out cj HK.out.1
            have HQ : Hid ((∀ w', Below wr.heap.size wr w' → w'.cell? ⟨kp, a, none⟩ = some (.int .i64 ((p a : Nat) : Int)) ∧ w'.cell? ⟨kp, b, none⟩ = some (.int .i64 ((p b : Nat) : Int))) ∧ (false = true ↔ p a = p b)) := by
              refine ⟨fun w' h => ?_, ?_⟩
              · have hb := HLn.out.2.trans (h.mono HLn.out.2.size)
                exact ⟨cell_keep hb (H8.out.2.2 a HN.out.1), cell_keep hb (H8.out.2.2 b HN.out.2.1)⟩
              · rw [HP.out.same a b]
                first | exact HI.out | simpa using HI.out
            clear hua hgen hrt hlk hfa hEc hall hin hK hiN hlt hi hm HL
            go_wp2_with fail
            refine (HS1.out wr (Below.refl _ _)).mono ?_
            rintro e w13 ⟨rfl, hb13⟩
            have H13 : Hid (Below wr.heap.size wr w13) := hb13
            clear hb13 i1
            go_wp2_with fail
            refine (HS2.out w13 H13.out).mono ?_
            rintro e w14 ⟨rfl, hb14⟩
            have H14 : Hid (Below wr.heap.size wr w14) := H13.out.trans (hb14.mono H13.out.size)
            clear hb14 H13
            go_wp2_with fail
            refine (HS3.out w14 H14.out).mono ?_
            rintro e w15 ⟨rfl, hb15⟩
            have H15 : Hid (Below wr.heap.size wr w15) := H14.out.trans (hb15.mono H14.out.size)
            clear hb15 H14
            go_wp2_with fail
            refine (HS6.out w15 H15.out).mono ?_
            rintro e w16 ⟨rfl, hb16⟩
            have H16 : Hid (Below wr.heap.size wr w16) := H15.out.trans (hb16.mono H15.out.size)
            clear hb16 H15
            obtain ⟨pa, hpa⟩ : ∃ pa, p a = pa := ⟨_, rfl⟩
            obtain ⟨pb, hpb⟩ : ∃ pb, p b = pb := ⟨_, rfl⟩
            have hq := HQ.out
            rw [hpa, hpb] at hq
            have hS0 : Below wr.heap.size wr w16.drew ∧ w16.drew.cell? ⟨kp, a, none⟩ = some (.int .i64 (pa : Nat)) ∧ w16.drew.cell? ⟨kp, b, none⟩ = some (.int .i64 (pb : Nat)) := ⟨H16.out.drew, (hq.1 _ H16.out.drew).1, (hq.1 _ H16.out.drew).2⟩
            have s9 : ((pa : Int) == (pb : Int)) = false := by
              have h3 : (false = true) ↔ pa = pb := by first | exact hq.2 | simpa using hq.2
              rw [Bool.eq_iff_iff, h3, beq_iff_eq]
              omega
            have s8 : ((K : Int) == (K : Int)) = true := beq_self_eq_true _
            have s7 : ((cj : Int) == (cj : Int)) = true := beq_self_eq_true _
            have i0 : (0 : Int) ≤ (a : Int) := by omega
            have i1 : (a : Int) < (G.n : Int) := by have := HN.out.1; omega
            have i2 : (0 : Int) ≤ (b : Int) := by omega
            have i3 : (b : Int) < (G.n : Int) := by have := HN.out.2.1; omega
            have w9 : IntKind.i64.wrap ((G.n : Int) - (E.length : Int)) = (cj : Int) := by rw [IntKind.wrap_i64]; have := HEn.out; have := HN.out.2.2; omega
            have HW : Hid (∀ w', Below wr.heap.size wr w' → Below w.heap.size w w') := fun w' h => HE.out w' (HD.out w' h).old
            clear hq hpa hpb
            go_wp2_with fail
            refine wp_region_noPanic ?_
            refine wp_region_held_drew (S := fun V => Below wr.heap.size wr V ∧ V.cell? ⟨kp, a, none⟩ = some (.int .i64 (pa : Nat)) ∧ V.cell? ⟨kp, b, none⟩ = some (.int .i64 (pb : Nat))) (by kernel_rfl) hS0 (fun hHeld => ?_)
            refine wpAnyH_take (i := 0) (oi := { dst := some 193, op := Go.Op.move (Go.Operand.tmp 30), type := 28, pos := _, after := #[], guard := none }) (v := ?vb1) rfl (by kernel_rfl) (by kernel_rfl) (by kernel_rfl) (fun _ _ _ h => h) (Or.inl ⟨by rfl, ?yb1⟩) (by assumption) ?_
            case yb1 =>
              intro w hSw
              (try dsimp only at hSw)
              go_simp
              (try with_reducible rfl)
            simp only [Act.put, List.setIfInBounds_toArray, List.set_cons_zero, List.set_cons_succ]
            refine wpAnyH_take (i := 1) (oi := { dst := some 194, op := Go.Op.binOp Go.BinOp.eql 28 (Go.Operand.tmp 193) (Go.Operand.const Go.Value.nilIface) 28, type := 4, pos := _, after := #[{ on := 0, ground := Go.Ground.data }], guard := none }) (v := ?vb2) rfl (by kernel_rfl) (by kernel_rfl) (by kernel_rfl) (fun _ _ _ h => h) (Or.inl ⟨by rfl, ?yb2⟩) (by assumption) ?_
            case yb2 =>
              intro w hSw
              (try dsimp only at hSw)
              go_simp
              (try with_reducible rfl)
            simp only [Act.put, List.setIfInBounds_toArray, List.set_cons_zero, List.set_cons_succ]
            refine wpAnyH_take (i := 2) (oi := { dst := some 195, op := Go.Op.move (Go.Operand.tmp 194), type := 4, pos := _, after := #[{ on := 1, ground := Go.Ground.data }], guard := none }) (v := ?vb3) rfl (by kernel_rfl) (by kernel_rfl) (by kernel_rfl) (fun _ _ _ h => h) (Or.inl ⟨by rfl, ?yb3⟩) (by assumption) ?_
            case yb3 =>
              intro w hSw
              (try dsimp only at hSw)
              go_simp
              (try with_reducible rfl)
            simp only [Act.put, List.setIfInBounds_toArray, List.set_cons_zero, List.set_cons_succ]
            refine wpAnyH_take (i := 3) (oi := { dst := some 196, op := Go.Op.move (Go.Operand.tmp 32), type := 28, pos := _, after := #[{ on := 2, ground := Go.Ground.guard }], guard := some (2, true) }) (v := ?vb4) rfl (by kernel_rfl) (by kernel_rfl) (by kernel_rfl) (fun _ _ _ h => h) (Or.inl ⟨by rfl, ?yb4⟩) (by assumption) ?_
            case yb4 =>
              intro w hSw
              (try dsimp only at hSw)
              go_simp
              (try with_reducible rfl)
            simp only [Act.put, List.setIfInBounds_toArray, List.set_cons_zero, List.set_cons_succ]
            refine wpAnyH_take (i := 4) (oi := { dst := some 197, op := Go.Op.binOp Go.BinOp.eql 28 (Go.Operand.tmp 196) (Go.Operand.const Go.Value.nilIface) 28, type := 4, pos := _, after := #[{ on := 3, ground := Go.Ground.data }, { on := 2, ground := Go.Ground.guard }], guard := some (2, true) }) (v := ?vb5) rfl (by kernel_rfl) (by kernel_rfl) (by kernel_rfl) (fun _ _ _ h => h) (Or.inl ⟨by rfl, ?yb5⟩) (by assumption) ?_
            case yb5 =>
              intro w hSw
              (try dsimp only at hSw)
              go_simp
              (try with_reducible rfl)
            simp only [Act.put, List.setIfInBounds_toArray, List.set_cons_zero, List.set_cons_succ]
            refine wpAnyH_take (i := 5) (oi := { dst := some 198, op := Go.Op.pick (Go.Operand.tmp 195) (Go.Operand.tmp 197) (Go.Operand.const (Go.Value.bool false)), type := 4, pos := _, after := #[{ on := 2, ground := Go.Ground.data }, { on := 4, ground := Go.Ground.data }], guard := none }) (v := ?vb6) rfl (by kernel_rfl) (by kernel_rfl) (by kernel_rfl) (fun _ _ _ h => h) (Or.inl ⟨by rfl, ?yb6⟩) (by assumption) ?_
            case yb6 =>
              intro w hSw
              (try dsimp only at hSw)
              go_simp
              (try with_reducible rfl)
            simp only [Act.put, List.setIfInBounds_toArray, List.set_cons_zero, List.set_cons_succ]
            refine wpAnyH_take (i := 6) (oi := { dst := some 199, op := Go.Op.move (Go.Operand.tmp 198), type := 4, pos := _, after := #[{ on := 5, ground := Go.Ground.data }, { on := 2, ground := Go.Ground.chain }], guard := none }) (v := ?vb7) rfl (by kernel_rfl) (by kernel_rfl) (by kernel_rfl) (fun _ _ _ h => h) (Or.inl ⟨by rfl, ?yb7⟩) (by assumption) ?_
            case yb7 =>
              intro w hSw
              (try dsimp only at hSw)
              go_simp
              (try with_reducible rfl)
            simp only [Act.put, List.setIfInBounds_toArray, List.set_cons_zero, List.set_cons_succ]
            refine wpAnyH_take (i := 7) (oi := { dst := some 200, op := Go.Op.move (Go.Operand.tmp 34), type := 28, pos := _, after := #[{ on := 6, ground := Go.Ground.guard }], guard := some (6, true) }) (v := ?vb8) rfl (by kernel_rfl) (by kernel_rfl) (by kernel_rfl) (fun _ _ _ h => h) (Or.inl ⟨by rfl, ?yb8⟩) (by assumption) ?_
            case yb8 =>
              intro w hSw
              (try dsimp only at hSw)
              go_simp
              (try with_reducible rfl)
            simp only [Act.put, List.setIfInBounds_toArray, List.set_cons_zero, List.set_cons_succ]
            refine wpAnyH_take (i := 8) (oi := { dst := some 201, op := Go.Op.binOp Go.BinOp.eql 28 (Go.Operand.tmp 200) (Go.Operand.const Go.Value.nilIface) 28, type := 4, pos := _, after := #[{ on := 7, ground := Go.Ground.data }, { on := 6, ground := Go.Ground.guard }], guard := some (6, true) }) (v := ?vb9) rfl (by kernel_rfl) (by kernel_rfl) (by kernel_rfl) (fun _ _ _ h => h) (Or.inl ⟨by rfl, ?yb9⟩) (by assumption) ?_
            case yb9 =>
              intro w hSw
              (try dsimp only at hSw)
              go_simp
              (try with_reducible rfl)
            simp only [Act.put, List.setIfInBounds_toArray, List.set_cons_zero, List.set_cons_succ]
            refine wpAnyH_take (i := 9) (oi := { dst := some 202, op := Go.Op.pick (Go.Operand.tmp 199) (Go.Operand.tmp 201) (Go.Operand.const (Go.Value.bool false)), type := 4, pos := _, after := #[{ on := 6, ground := Go.Ground.data }, { on := 8, ground := Go.Ground.data }], guard := none }) (v := ?vb10) rfl (by kernel_rfl) (by kernel_rfl) (by kernel_rfl) (fun _ _ _ h => h) (Or.inl ⟨by rfl, ?yb10⟩) (by assumption) ?_
            case yb10 =>
              intro w hSw
              (try dsimp only at hSw)
              go_simp
              (try with_reducible rfl)
            simp only [Act.put, List.setIfInBounds_toArray, List.set_cons_zero, List.set_cons_succ]
            refine wpAnyH_take (i := 10) (oi := { dst := some 203, op := Go.Op.move (Go.Operand.tmp 202), type := 4, pos := _, after := #[{ on := 9, ground := Go.Ground.data }, { on := 6, ground := Go.Ground.chain }], guard := none }) (v := ?vb11) rfl (by kernel_rfl) (by kernel_rfl) (by kernel_rfl) (fun _ _ _ h => h) (Or.inl ⟨by rfl, ?yb11⟩) (by assumption) ?_
            case yb11 =>
              intro w hSw
              (try dsimp only at hSw)
              go_simp
              (try with_reducible rfl)
            simp only [Act.put, List.setIfInBounds_toArray, List.set_cons_zero, List.set_cons_succ]
            refine wpAnyH_take (i := 11) (oi := { dst := some 204, op := Go.Op.move (Go.Operand.tmp 36), type := 28, pos := _, after := #[{ on := 10, ground := Go.Ground.guard }], guard := some (10, true) }) (v := ?vb12) rfl (by kernel_rfl) (by kernel_rfl) (by kernel_rfl) (fun _ _ _ h => h) (Or.inl ⟨by rfl, ?yb12⟩) (by assumption) ?_
            case yb12 =>
              intro w hSw
              (try dsimp only at hSw)
              go_simp
              (try with_reducible rfl)
            simp only [Act.put, List.setIfInBounds_toArray, List.set_cons_zero, List.set_cons_succ]
            refine wpAnyH_take (i := 12) (oi := { dst := some 205, op := Go.Op.binOp Go.BinOp.eql 28 (Go.Operand.tmp 204) (Go.Operand.const Go.Value.nilIface) 28, type := 4, pos := _, after := #[{ on := 11, ground := Go.Ground.data }, { on := 10, ground := Go.Ground.guard }], guard := some (10, true) }) (v := ?vb13) rfl (by kernel_rfl) (by kernel_rfl) (by kernel_rfl) (fun _ _ _ h => h) (Or.inl ⟨by rfl, ?yb13⟩) (by assumption) ?_
            case yb13 =>
              intro w hSw
              (try dsimp only at hSw)
              go_simp
              (try with_reducible rfl)
            simp only [Act.put, List.setIfInBounds_toArray, List.set_cons_zero, List.set_cons_succ]
            refine wpAnyH_take (i := 13) (oi := { dst := some 206, op := Go.Op.pick (Go.Operand.tmp 203) (Go.Operand.tmp 205) (Go.Operand.const (Go.Value.bool false)), type := 4, pos := _, after := #[{ on := 10, ground := Go.Ground.data }, { on := 12, ground := Go.Ground.data }], guard := none }) (v := ?vb14) rfl (by kernel_rfl) (by kernel_rfl) (by kernel_rfl) (fun _ _ _ h => h) (Or.inl ⟨by rfl, ?yb14⟩) (by assumption) ?_
            case yb14 =>
              intro w hSw
              (try dsimp only at hSw)
              go_simp
              (try with_reducible rfl)
            simp only [Act.put, List.setIfInBounds_toArray, List.set_cons_zero, List.set_cons_succ]
            refine wpAnyH_take (i := 14) (oi := { dst := some 207, op := Go.Op.move (Go.Operand.tmp 206), type := 4, pos := _, after := #[{ on := 13, ground := Go.Ground.data }, { on := 10, ground := Go.Ground.chain }], guard := none }) (v := ?vb15) rfl (by kernel_rfl) (by kernel_rfl) (by kernel_rfl) (fun _ _ _ h => h) (Or.inl ⟨by rfl, ?yb15⟩) (by assumption) ?_
            case yb15 =>
              intro w hSw
              (try dsimp only at hSw)
              go_simp
              (try with_reducible rfl)
            simp only [Act.put, List.setIfInBounds_toArray, List.set_cons_zero, List.set_cons_succ]
            refine wpAnyH_take (i := 15) (oi := { dst := some 208, op := Go.Op.move (Go.Operand.tmp 29), type := 4, pos := _, after := #[{ on := 14, ground := Go.Ground.guard }], guard := some (14, true) }) (v := ?vb16) rfl (by kernel_rfl) (by kernel_rfl) (by kernel_rfl) (fun _ _ _ h => h) (Or.inl ⟨by rfl, ?yb16⟩) (by assumption) ?_
            case yb16 =>
              intro w hSw
              (try dsimp only at hSw)
              go_simp
              (try with_reducible rfl)
            simp only [Act.put, List.setIfInBounds_toArray, List.set_cons_zero, List.set_cons_succ]
            refine wpAnyH_take (i := 16) (oi := { dst := some 209, op := Go.Op.move (Go.Operand.tmp 12), type := 4, pos := _, after := #[{ on := 14, ground := Go.Ground.guard }], guard := some (14, true) }) (v := ?vb17) rfl (by kernel_rfl) (by kernel_rfl) (by kernel_rfl) (fun _ _ _ h => h) (Or.inl ⟨by rfl, ?yb17⟩) (by assumption) ?_
            case yb17 =>
              intro w hSw
              (try dsimp only at hSw)
              go_simp
              (try with_reducible rfl)
            simp only [Act.put, List.setIfInBounds_toArray, List.set_cons_zero, List.set_cons_succ]
            refine wpAnyH_take (i := 17) (oi := { dst := some 210, op := Go.Op.binOp Go.BinOp.eql 4 (Go.Operand.tmp 208) (Go.Operand.tmp 209) 4, type := 4, pos := _, after := #[{ on := 15, ground := Go.Ground.data }, { on := 16, ground := Go.Ground.data }, { on := 14, ground := Go.Ground.guard }], guard := some (14, true) }) (v := ?vb18) rfl (by kernel_rfl) (by kernel_rfl) (by kernel_rfl) (fun _ _ _ h => h) (Or.inl ⟨by rfl, ?yb18⟩) (by assumption) ?_
            case yb18 =>
              intro w hSw
              (try dsimp only at hSw)
              go_simp
              (try with_reducible rfl)
            simp only [Act.put, List.setIfInBounds_toArray, List.set_cons_zero, List.set_cons_succ]
            refine wpAnyH_take (i := 18) (oi := { dst := some 211, op := Go.Op.pick (Go.Operand.tmp 207) (Go.Operand.tmp 210) (Go.Operand.const (Go.Value.bool false)), type := 4, pos := _, after := #[{ on := 14, ground := Go.Ground.data }, { on := 17, ground := Go.Ground.data }], guard := none }) (v := ?vb19) rfl (by kernel_rfl) (by kernel_rfl) (by kernel_rfl) (fun _ _ _ h => h) (Or.inl ⟨by rfl, ?yb19⟩) (by assumption) ?_
            case yb19 =>
              intro w hSw
              (try dsimp only at hSw)
              go_simp
              (try with_reducible rfl)
            simp only [Act.put, List.setIfInBounds_toArray, List.set_cons_zero, List.set_cons_succ]
            refine wpAnyH_take (i := 19) (oi := { dst := some 212, op := Go.Op.move (Go.Operand.tmp 211), type := 4, pos := _, after := #[{ on := 18, ground := Go.Ground.data }, { on := 14, ground := Go.Ground.chain }], guard := none }) (v := ?vb20) rfl (by kernel_rfl) (by kernel_rfl) (by kernel_rfl) (fun _ _ _ h => h) (Or.inl ⟨by rfl, ?yb20⟩) (by assumption) ?_
            case yb20 =>
              intro w hSw
              (try dsimp only at hSw)
              go_simp
              (try with_reducible rfl)
            simp only [Act.put, List.setIfInBounds_toArray, List.set_cons_zero, List.set_cons_succ]
            refine wpAnyH_take (i := 20) (oi := { dst := some 213, op := Go.Op.move (Go.Operand.tmp 31), type := 4, pos := _, after := #[{ on := 19, ground := Go.Ground.guard }], guard := some (19, true) }) (v := ?vb21) rfl (by kernel_rfl) (by kernel_rfl) (by kernel_rfl) (fun _ _ _ h => h) (Or.inl ⟨by rfl, ?yb21⟩) (by assumption) ?_
            case yb21 =>
              intro w hSw
              (try dsimp only at hSw)
              go_simp
              (try with_reducible rfl)
            simp only [Act.put, List.setIfInBounds_toArray, List.set_cons_zero, List.set_cons_succ]
            refine wpAnyH_take (i := 21) (oi := { dst := some 214, op := Go.Op.move (Go.Operand.tmp 12), type := 4, pos := _, after := #[{ on := 19, ground := Go.Ground.guard }], guard := some (19, true) }) (v := ?vb22) rfl (by kernel_rfl) (by kernel_rfl) (by kernel_rfl) (fun _ _ _ h => h) (Or.inl ⟨by rfl, ?yb22⟩) (by assumption) ?_
            case yb22 =>
              intro w hSw
              (try dsimp only at hSw)
              go_simp
              (try with_reducible rfl)
            simp only [Act.put, List.setIfInBounds_toArray, List.set_cons_zero, List.set_cons_succ]
            refine wpAnyH_take (i := 22) (oi := { dst := some 215, op := Go.Op.binOp Go.BinOp.eql 4 (Go.Operand.tmp 213) (Go.Operand.tmp 214) 4, type := 4, pos := _, after := #[{ on := 20, ground := Go.Ground.data }, { on := 21, ground := Go.Ground.data }, { on := 19, ground := Go.Ground.guard }], guard := some (19, true) }) (v := ?vb23) rfl (by kernel_rfl) (by kernel_rfl) (by kernel_rfl) (fun _ _ _ h => h) (Or.inl ⟨by rfl, ?yb23⟩) (by assumption) ?_
            case yb23 =>
              intro w hSw
              (try dsimp only at hSw)
              go_simp
              (try with_reducible rfl)
            simp only [Act.put, List.setIfInBounds_toArray, List.set_cons_zero, List.set_cons_succ]
            refine wpAnyH_take (i := 23) (oi := { dst := some 216, op := Go.Op.pick (Go.Operand.tmp 212) (Go.Operand.tmp 215) (Go.Operand.const (Go.Value.bool false)), type := 4, pos := _, after := #[{ on := 19, ground := Go.Ground.data }, { on := 22, ground := Go.Ground.data }], guard := none }) (v := ?vb24) rfl (by kernel_rfl) (by kernel_rfl) (by kernel_rfl) (fun _ _ _ h => h) (Or.inl ⟨by rfl, ?yb24⟩) (by assumption) ?_
            case yb24 =>
              intro w hSw
              (try dsimp only at hSw)
              go_simp
              (try with_reducible rfl)
            simp only [Act.put, List.setIfInBounds_toArray, List.set_cons_zero, List.set_cons_succ]
            refine wpAnyH_take (i := 24) (oi := { dst := some 217, op := Go.Op.move (Go.Operand.tmp 216), type := 4, pos := _, after := #[{ on := 23, ground := Go.Ground.data }, { on := 19, ground := Go.Ground.chain }], guard := none }) (v := ?vb25) rfl (by kernel_rfl) (by kernel_rfl) (by kernel_rfl) (fun _ _ _ h => h) (Or.inl ⟨by rfl, ?yb25⟩) (by assumption) ?_
            case yb25 =>
              intro w hSw
              (try dsimp only at hSw)
              go_simp
              (try with_reducible rfl)
            simp only [Act.put, List.setIfInBounds_toArray, List.set_cons_zero, List.set_cons_succ]
            refine wpAnyH_take (i := 25) (oi := { dst := some 218, op := Go.Op.move (Go.Operand.tmp 33), type := 3, pos := _, after := #[{ on := 24, ground := Go.Ground.guard }], guard := some (24, true) }) (v := ?vb26) rfl (by kernel_rfl) (by kernel_rfl) (by kernel_rfl) (fun _ _ _ h => h) (Or.inl ⟨by rfl, ?yb26⟩) (by assumption) ?_
            case yb26 =>
              intro w hSw
              (try dsimp only at hSw)
              go_simp
              (try with_reducible rfl)
            simp only [Act.put, List.setIfInBounds_toArray, List.set_cons_zero, List.set_cons_succ]
            refine wpAnyH_take (i := 26) (oi := { dst := some 219, op := Go.Op.move (Go.Operand.tmp 35), type := 3, pos := _, after := #[{ on := 24, ground := Go.Ground.guard }], guard := some (24, true) }) (v := ?vb27) rfl (by kernel_rfl) (by kernel_rfl) (by kernel_rfl) (fun _ _ _ h => h) (Or.inl ⟨by rfl, ?yb27⟩) (by assumption) ?_
            case yb27 =>
              intro w hSw
              (try dsimp only at hSw)
              go_simp
              (try with_reducible rfl)
            simp only [Act.put, List.setIfInBounds_toArray, List.set_cons_zero, List.set_cons_succ]
            refine wpAnyH_take (i := 27) (oi := { dst := some 220, op := Go.Op.binOp Go.BinOp.eql 3 (Go.Operand.tmp 218) (Go.Operand.tmp 219) 3, type := 4, pos := _, after := #[{ on := 25, ground := Go.Ground.data }, { on := 26, ground := Go.Ground.data }, { on := 24, ground := Go.Ground.guard }], guard := some (24, true) }) (v := ?vb28) rfl (by kernel_rfl) (by kernel_rfl) (by kernel_rfl) (fun _ _ _ h => h) (Or.inl ⟨by rfl, ?yb28⟩) (by assumption) ?_
            case yb28 =>
              intro w hSw
              (try dsimp only at hSw)
              go_simp
              (try with_reducible rfl)
            simp only [Act.put, List.setIfInBounds_toArray, List.set_cons_zero, List.set_cons_succ]
            refine wpAnyH_take (i := 28) (oi := { dst := some 221, op := Go.Op.pick (Go.Operand.tmp 217) (Go.Operand.tmp 220) (Go.Operand.const (Go.Value.bool false)), type := 4, pos := _, after := #[{ on := 24, ground := Go.Ground.data }, { on := 27, ground := Go.Ground.data }], guard := none }) (v := ?vb29) rfl (by kernel_rfl) (by kernel_rfl) (by kernel_rfl) (fun _ _ _ h => h) (Or.inl ⟨by rfl, ?yb29⟩) (by assumption) ?_
            case yb29 =>
              intro w hSw
              (try dsimp only at hSw)
              go_simp
              (try with_reducible rfl)
            simp only [Act.put, List.setIfInBounds_toArray, List.set_cons_zero, List.set_cons_succ]
            refine wpAnyH_take (i := 29) (oi := { dst := some 222, op := Go.Op.move (Go.Operand.tmp 221), type := 4, pos := _, after := #[{ on := 28, ground := Go.Ground.data }, { on := 24, ground := Go.Ground.chain }], guard := none }) (v := ?vb30) rfl (by kernel_rfl) (by kernel_rfl) (by kernel_rfl) (fun _ _ _ h => h) (Or.inl ⟨by rfl, ?yb30⟩) (by assumption) ?_
            case yb30 =>
              intro w hSw
              (try dsimp only at hSw)
              go_simp
              (try with_reducible rfl)
            simp only [Act.put, List.setIfInBounds_toArray, List.set_cons_zero, List.set_cons_succ]
            refine wpAnyH_take (i := 30) (oi := { dst := some 223, op := Go.Op.move (Go.Operand.tmp 20), type := 33, pos := _, after := #[{ on := 29, ground := Go.Ground.guard }], guard := some (29, true) }) (v := ?vb31) rfl (by kernel_rfl) (by kernel_rfl) (by kernel_rfl) (fun _ _ _ h => h) (Or.inl ⟨by rfl, ?yb31⟩) (by assumption) ?_
            case yb31 =>
              intro w hSw
              (try dsimp only at hSw)
              go_simp
              (try with_reducible rfl)
            simp only [Act.put, List.setIfInBounds_toArray, List.set_cons_zero, List.set_cons_succ]
            refine wpAnyH_take (i := 31) (oi := { dst := some 224, op := Go.Op.move (Go.Operand.tmp 2), type := 3, pos := _, after := #[{ on := 29, ground := Go.Ground.guard }], guard := some (29, true) }) (v := ?vb32) rfl (by kernel_rfl) (by kernel_rfl) (by kernel_rfl) (fun _ _ _ h => h) (Or.inl ⟨by rfl, ?yb32⟩) (by assumption) ?_
            case yb32 =>
              intro w hSw
              (try dsimp only at hSw)
              go_simp
              (try with_reducible rfl)
            simp only [Act.put, List.setIfInBounds_toArray, List.set_cons_zero, List.set_cons_succ]
            refine wpAnyH_take (i := 32) (oi := { dst := some 225, op := Go.Op.indexAddr 33 (Go.Operand.tmp 223) (Go.Operand.tmp 224), type := 0, pos := _, after := #[{ on := 30, ground := Go.Ground.data }, { on := 31, ground := Go.Ground.data }, { on := 29, ground := Go.Ground.guard }], guard := some (29, true) }) (v := ?vb33) rfl (by kernel_rfl) (by kernel_rfl) (by kernel_rfl) (fun _ _ _ h => h) (Or.inl ⟨by rfl, ?yb33⟩) (by assumption) ?_
            case yb33 =>
              intro w hSw
              (try dsimp only at hSw)
              go_simp
              (try with_reducible rfl)
            simp only [Act.put, List.setIfInBounds_toArray, List.set_cons_zero, List.set_cons_succ]
            refine wpAnyH_take (i := 33) (oi := { dst := some 226, op := Go.Op.load 3 (Go.Operand.tmp 225), type := 3, pos := _, after := #[{ on := 32, ground := Go.Ground.data }, { on := 29, ground := Go.Ground.guard }], guard := some (29, true) }) (v := ?vb34) rfl (by kernel_rfl) (by kernel_rfl) (by kernel_rfl) (fun _ _ _ h => h) (Or.inl ⟨by rfl, ?yb34⟩) (by assumption) ?_
            case yb34 =>
              intro w hSw
              (try dsimp only at hSw)
              go_simp
              (try with_reducible rfl)
            simp only [Act.put, List.setIfInBounds_toArray, List.set_cons_zero, List.set_cons_succ]
            refine wpAnyH_take (i := 34) (oi := { dst := some 227, op := Go.Op.move (Go.Operand.tmp 20), type := 33, pos := _, after := #[{ on := 29, ground := Go.Ground.guard }], guard := some (29, true) }) (v := ?vb35) rfl (by kernel_rfl) (by kernel_rfl) (by kernel_rfl) (fun _ _ _ h => h) (Or.inl ⟨by rfl, ?yb35⟩) (by assumption) ?_
            case yb35 =>
              intro w hSw
              (try dsimp only at hSw)
              go_simp
              (try with_reducible rfl)
            simp only [Act.put, List.setIfInBounds_toArray, List.set_cons_zero, List.set_cons_succ]
            refine wpAnyH_take (i := 35) (oi := { dst := some 228, op := Go.Op.move (Go.Operand.tmp 3), type := 3, pos := _, after := #[{ on := 29, ground := Go.Ground.guard }], guard := some (29, true) }) (v := ?vb36) rfl (by kernel_rfl) (by kernel_rfl) (by kernel_rfl) (fun _ _ _ h => h) (Or.inl ⟨by rfl, ?yb36⟩) (by assumption) ?_
            case yb36 =>
              intro w hSw
              (try dsimp only at hSw)
              go_simp
              (try with_reducible rfl)
            simp only [Act.put, List.setIfInBounds_toArray, List.set_cons_zero, List.set_cons_succ]
            refine wpAnyH_take (i := 36) (oi := { dst := some 229, op := Go.Op.indexAddr 33 (Go.Operand.tmp 227) (Go.Operand.tmp 228), type := 0, pos := _, after := #[{ on := 34, ground := Go.Ground.data }, { on := 35, ground := Go.Ground.data }, { on := 29, ground := Go.Ground.guard }], guard := some (29, true) }) (v := ?vb37) rfl (by kernel_rfl) (by kernel_rfl) (by kernel_rfl) (fun _ _ _ h => h) (Or.inl ⟨by rfl, ?yb37⟩) (by assumption) ?_
            case yb37 =>
              intro w hSw
              (try dsimp only at hSw)
              go_simp
              (try with_reducible rfl)
            simp only [Act.put, List.setIfInBounds_toArray, List.set_cons_zero, List.set_cons_succ]
            refine wpAnyH_take (i := 37) (oi := { dst := some 230, op := Go.Op.load 3 (Go.Operand.tmp 229), type := 3, pos := _, after := #[{ on := 36, ground := Go.Ground.data }, { on := 29, ground := Go.Ground.guard }], guard := some (29, true) }) (v := ?vb38) rfl (by kernel_rfl) (by kernel_rfl) (by kernel_rfl) (fun _ _ _ h => h) (Or.inl ⟨by rfl, ?yb38⟩) (by assumption) ?_
            case yb38 =>
              intro w hSw
              (try dsimp only at hSw)
              go_simp
              (try with_reducible rfl)
            simp only [Act.put, List.setIfInBounds_toArray, List.set_cons_zero, List.set_cons_succ]
            refine wpAnyH_take (i := 38) (oi := { dst := some 231, op := Go.Op.binOp Go.BinOp.eql 3 (Go.Operand.tmp 226) (Go.Operand.tmp 230) 3, type := 4, pos := _, after := #[{ on := 33, ground := Go.Ground.data }, { on := 37, ground := Go.Ground.data }, { on := 29, ground := Go.Ground.guard }], guard := some (29, true) }) (v := ?vb39) rfl (by kernel_rfl) (by kernel_rfl) (by kernel_rfl) (fun _ _ _ h => h) (Or.inl ⟨by rfl, ?yb39⟩) (by assumption) ?_
            case yb39 =>
              intro w hSw
              (try dsimp only at hSw)
              go_simp
              (try with_reducible rfl)
            simp only [Act.put, List.setIfInBounds_toArray, List.set_cons_zero, List.set_cons_succ]
            refine wpAnyH_take (i := 39) (oi := { dst := some 232, op := Go.Op.move (Go.Operand.tmp 12), type := 4, pos := _, after := #[{ on := 29, ground := Go.Ground.guard }], guard := some (29, true) }) (v := ?vb40) rfl (by kernel_rfl) (by kernel_rfl) (by kernel_rfl) (fun _ _ _ h => h) (Or.inl ⟨by rfl, ?yb40⟩) (by assumption) ?_
            case yb40 =>
              intro w hSw
              (try dsimp only at hSw)
              go_simp
              (try with_reducible rfl)
            simp only [Act.put, List.setIfInBounds_toArray, List.set_cons_zero, List.set_cons_succ]
            refine wpAnyH_take (i := 40) (oi := { dst := some 233, op := Go.Op.binOp Go.BinOp.eql 4 (Go.Operand.tmp 231) (Go.Operand.tmp 232) 4, type := 4, pos := _, after := #[{ on := 38, ground := Go.Ground.data }, { on := 39, ground := Go.Ground.data }, { on := 29, ground := Go.Ground.guard }], guard := some (29, true) }) (v := ?vb41) rfl (by kernel_rfl) (by kernel_rfl) (by kernel_rfl) (fun _ _ _ h => h) (Or.inl ⟨by rfl, ?yb41⟩) (by assumption) ?_
            case yb41 =>
              intro w hSw
              (try dsimp only at hSw)
              go_simp
              (try with_reducible rfl)
            simp only [Act.put, List.setIfInBounds_toArray, List.set_cons_zero, List.set_cons_succ]
            refine wpAnyH_take (i := 41) (oi := { dst := some 234, op := Go.Op.pick (Go.Operand.tmp 222) (Go.Operand.tmp 233) (Go.Operand.const (Go.Value.bool false)), type := 4, pos := _, after := #[{ on := 29, ground := Go.Ground.data }, { on := 40, ground := Go.Ground.data }], guard := none }) (v := ?vb42) rfl (by kernel_rfl) (by kernel_rfl) (by kernel_rfl) (fun _ _ _ h => h) (Or.inl ⟨by rfl, ?yb42⟩) (by assumption) ?_
            case yb42 =>
              intro w hSw
              (try dsimp only at hSw)
              go_simp
              (try with_reducible rfl)
            simp only [Act.put, List.setIfInBounds_toArray, List.set_cons_zero, List.set_cons_succ]
            refine wpAnyH_take (i := 42) (oi := { dst := some 235, op := Go.Op.move (Go.Operand.tmp 234), type := 4, pos := _, after := #[{ on := 41, ground := Go.Ground.data }, { on := 29, ground := Go.Ground.chain }], guard := none }) (v := ?vb43) rfl (by kernel_rfl) (by kernel_rfl) (by kernel_rfl) (fun _ _ _ h => h) (Or.inl ⟨by rfl, ?yb43⟩) (by assumption) ?_
            case yb43 =>
              intro w hSw
              (try dsimp only at hSw)
              go_simp
              (try with_reducible rfl)
            simp only [Act.put, List.setIfInBounds_toArray, List.set_cons_zero, List.set_cons_succ]
            refine wpAnyH_take (i := 43) (oi := { dst := some 236, op := Go.Op.move (Go.Operand.tmp 26), type := 3, pos := _, after := #[{ on := 42, ground := Go.Ground.guard }], guard := some (42, true) }) (v := ?vb44) rfl (by kernel_rfl) (by kernel_rfl) (by kernel_rfl) (fun _ _ _ h => h) (Or.inl ⟨by rfl, ?yb44⟩) (by assumption) ?_
            case yb44 =>
              intro w hSw
              (try dsimp only at hSw)
              go_simp
              (try with_reducible rfl)
            simp only [Act.put, List.setIfInBounds_toArray, List.set_cons_zero, List.set_cons_succ]
            refine wpAnyH_take (i := 44) (oi := { dst := some 237, op := Go.Op.move (Go.Operand.tmp 10), type := 24, pos := _, after := #[{ on := 42, ground := Go.Ground.guard }], guard := some (42, true) }) (v := ?vb45) rfl (by kernel_rfl) (by kernel_rfl) (by kernel_rfl) (fun _ _ _ h => h) (Or.inl ⟨by rfl, ?yb45⟩) (by assumption) ?_
            case yb45 =>
              intro w hSw
              (try dsimp only at hSw)
              go_simp
              (try with_reducible rfl)
            simp only [Act.put, List.setIfInBounds_toArray, List.set_cons_zero, List.set_cons_succ]
            refine wpAnyH_ready (rs := [45]) (by kernel_rfl) (by simp) ?_
            refine (AllReadyH.cons rfl (fun K9 hK9 => ?cb64) AllReadyH.nil)
            case cb64 =>
              go_simp
              go_wp2_with (go_at_call 23; refine (HS7.out _ hHeld.1).mono ?_; rintro e w17 ⟨rfl, hb17⟩)
              refine hK9.out _ _ ⟨hHeld.1.trans (hb17.mono hHeld.1.size), cell_keep hb17 hHeld.2.1, cell_keep hb17 hHeld.2.2⟩ (fun hHeld => ?_)
              clear hK9
              (try simp only [Act.put, List.setIfInBounds_toArray, List.set_cons_zero, List.set_cons_succ])
              refine wpAnyH_take (i := 46) (oi := { dst := some 239, op := Go.Op.binOp Go.BinOp.eql 3 (Go.Operand.tmp 236) (Go.Operand.tmp 238) 3, type := 4, pos := _, after := #[{ on := 43, ground := Go.Ground.data }, { on := 45, ground := Go.Ground.data }, { on := 42, ground := Go.Ground.guard }], guard := some (42, true) }) (v := ?vb46) rfl (by kernel_rfl) (by kernel_rfl) (by kernel_rfl) (fun _ _ _ h => h) (Or.inl ⟨by rfl, ?yb46⟩) (by assumption) ?_
              case yb46 =>
                intro w hSw
                (try dsimp only at hSw)
                go_simp
                (try with_reducible rfl)
              simp only [Act.put, List.setIfInBounds_toArray, List.set_cons_zero, List.set_cons_succ]
              refine wpAnyH_take (i := 47) (oi := { dst := some 240, op := Go.Op.pick (Go.Operand.tmp 235) (Go.Operand.tmp 239) (Go.Operand.const (Go.Value.bool false)), type := 4, pos := _, after := #[{ on := 42, ground := Go.Ground.data }, { on := 46, ground := Go.Ground.data }], guard := none }) (v := ?vb47) rfl (by kernel_rfl) (by kernel_rfl) (by kernel_rfl) (fun _ _ _ h => h) (Or.inl ⟨by rfl, ?yb47⟩) (by assumption) ?_
              case yb47 =>
                intro w hSw
                (try dsimp only at hSw)
                go_simp
                (try with_reducible rfl)
              simp only [Act.put, List.setIfInBounds_toArray, List.set_cons_zero, List.set_cons_succ]
              refine wpAnyH_take (i := 48) (oi := { dst := some 241, op := Go.Op.move (Go.Operand.tmp 240), type := 4, pos := _, after := #[{ on := 47, ground := Go.Ground.data }, { on := 45, ground := Go.Ground.chain }], guard := none }) (v := ?vb48) rfl (by kernel_rfl) (by kernel_rfl) (by kernel_rfl) (fun _ _ _ h => h) (Or.inl ⟨by rfl, ?yb48⟩) (by assumption) ?_
              case yb48 =>
                intro w hSw
                (try dsimp only at hSw)
                go_simp
                (try with_reducible rfl)
              simp only [Act.put, List.setIfInBounds_toArray, List.set_cons_zero, List.set_cons_succ]
              refine wpAnyH_take (i := 49) (oi := { dst := some 242, op := Go.Op.move (Go.Operand.tmp 22), type := 37, pos := _, after := #[{ on := 48, ground := Go.Ground.guard }], guard := some (48, true) }) (v := ?vb49) rfl (by kernel_rfl) (by kernel_rfl) (by kernel_rfl) (fun _ _ _ h => h) (Or.inl ⟨by rfl, ?yb49⟩) (by assumption) ?_
              case yb49 =>
                intro w hSw
                (try dsimp only at hSw)
                go_simp
                (try with_reducible rfl)
              simp only [Act.put, List.setIfInBounds_toArray, List.set_cons_zero, List.set_cons_succ]
              refine wpAnyH_take (i := 51) (oi := { dst := some 244, op := Go.Op.move (Go.Operand.tmp 26), type := 3, pos := _, after := #[{ on := 48, ground := Go.Ground.guard }], guard := some (48, true) }) (v := ?vb50) rfl (by kernel_rfl) (by kernel_rfl) (by kernel_rfl) (fun _ _ _ h => h) (Or.inl ⟨by rfl, ?yb50⟩) (by assumption) ?_
              case yb50 =>
                intro w hSw
                (try dsimp only at hSw)
                go_simp
                (try with_reducible rfl)
              simp only [Act.put, List.setIfInBounds_toArray, List.set_cons_zero, List.set_cons_succ]
              refine wpAnyH_ready (rs := [50]) (by kernel_rfl) (by simp) ?_
              refine (AllReadyH.cons rfl (fun K9 hK9 => ?cb63) AllReadyH.nil)
              case cb63 =>
                go_simp
                go_wp2_with (go_at_call 24; refine (HS4.out _ hHeld.1).mono ?_; rintro e w18 ⟨rfl, hb18⟩)
                refine hK9.out _ _ ⟨hHeld.1.trans (hb18.mono hHeld.1.size), cell_keep hb18 hHeld.2.1, cell_keep hb18 hHeld.2.2⟩ (fun hHeld => ?_)
                clear hK9
                (try simp only [Act.put, List.setIfInBounds_toArray, List.set_cons_zero, List.set_cons_succ])
                refine wpAnyH_take (i := 52) (oi := { dst := some 245, op := Go.Op.binOp Go.BinOp.eql 3 (Go.Operand.tmp 243) (Go.Operand.tmp 244) 3, type := 4, pos := _, after := #[{ on := 50, ground := Go.Ground.data }, { on := 51, ground := Go.Ground.data }, { on := 48, ground := Go.Ground.guard }], guard := some (48, true) }) (v := ?vb51) rfl (by kernel_rfl) (by kernel_rfl) (by kernel_rfl) (fun _ _ _ h => h) (Or.inl ⟨by rfl, ?yb51⟩) (by assumption) ?_
                case yb51 =>
                  intro w hSw
                  (try dsimp only at hSw)
                  go_simp
                  (try with_reducible rfl)
                simp only [Act.put, List.setIfInBounds_toArray, List.set_cons_zero, List.set_cons_succ]
                refine wpAnyH_take (i := 53) (oi := { dst := some 246, op := Go.Op.pick (Go.Operand.tmp 241) (Go.Operand.tmp 245) (Go.Operand.const (Go.Value.bool false)), type := 4, pos := _, after := #[{ on := 48, ground := Go.Ground.data }, { on := 52, ground := Go.Ground.data }], guard := none }) (v := ?vb52) rfl (by kernel_rfl) (by kernel_rfl) (by kernel_rfl) (fun _ _ _ h => h) (Or.inl ⟨by rfl, ?yb52⟩) (by assumption) ?_
                case yb52 =>
                  intro w hSw
                  (try dsimp only at hSw)
                  go_simp
                  (try with_reducible rfl)
                simp only [Act.put, List.setIfInBounds_toArray, List.set_cons_zero, List.set_cons_succ]
                refine wpAnyH_take (i := 54) (oi := { dst := some 247, op := Go.Op.move (Go.Operand.tmp 246), type := 4, pos := _, after := #[{ on := 53, ground := Go.Ground.data }, { on := 50, ground := Go.Ground.chain }], guard := none }) (v := ?vb53) rfl (by kernel_rfl) (by kernel_rfl) (by kernel_rfl) (fun _ _ _ h => h) (Or.inl ⟨by rfl, ?yb53⟩) (by assumption) ?_
                case yb53 =>
                  intro w hSw
                  (try dsimp only at hSw)
                  go_simp
                  (try with_reducible rfl)
                simp only [Act.put, List.setIfInBounds_toArray, List.set_cons_zero, List.set_cons_succ]
                refine wpAnyH_take (i := 55) (oi := { dst := some 248, op := Go.Op.move (Go.Operand.tmp 0), type := 3, pos := _, after := #[{ on := 54, ground := Go.Ground.guard }], guard := some (54, true) }) (v := ?vb54) rfl (by kernel_rfl) (by kernel_rfl) (by kernel_rfl) (fun _ _ _ h => h) (Or.inl ⟨by rfl, ?yb54⟩) (by assumption) ?_
                case yb54 =>
                  intro w hSw
                  (try dsimp only at hSw)
                  go_simp
                  (try with_reducible rfl)
                simp only [Act.put, List.setIfInBounds_toArray, List.set_cons_zero, List.set_cons_succ]
                refine wpAnyH_take (i := 56) (oi := { dst := some 249, op := Go.Op.move (Go.Operand.tmp 24), type := 40, pos := _, after := #[{ on := 54, ground := Go.Ground.guard }], guard := some (54, true) }) (v := ?vb55) rfl (by kernel_rfl) (by kernel_rfl) (by kernel_rfl) (fun _ _ _ h => h) (Or.inl ⟨by rfl, ?yb55⟩) (by assumption) ?_
                case yb55 =>
                  intro w hSw
                  (try dsimp only at hSw)
                  go_simp
                  (try with_reducible rfl)
                simp only [Act.put, List.setIfInBounds_toArray, List.set_cons_zero, List.set_cons_succ]
                refine wpAnyH_take (i := 60) (oi := { dst := some 253, op := Go.Op.move (Go.Operand.tmp 26), type := 3, pos := _, after := #[{ on := 54, ground := Go.Ground.guard }], guard := some (54, true) }) (v := ?vb56) rfl (by kernel_rfl) (by kernel_rfl) (by kernel_rfl) (fun _ _ _ h => h) (Or.inl ⟨by rfl, ?yb56⟩) (by assumption) ?_
                case yb56 =>
                  intro w hSw
                  (try dsimp only at hSw)
                  go_simp
                  (try with_reducible rfl)
                simp only [Act.put, List.setIfInBounds_toArray, List.set_cons_zero, List.set_cons_succ]
                refine wpAnyH_ready (rs := [57]) (by kernel_rfl) (by simp) ?_
                refine (AllReadyH.cons rfl (fun K9 hK9 => ?cb62) AllReadyH.nil)
                case cb62 =>
                  go_simp
                  go_wp2_with (go_at_call 25; refine (HS5.out _ hHeld.1).mono ?_; rintro e w19 ⟨⟨a19, c19, rfl⟩, hb19⟩)
                  refine hK9.out _ _ ⟨hHeld.1.trans (hb19.mono hHeld.1.size), cell_keep hb19 hHeld.2.1, cell_keep hb19 hHeld.2.2⟩ (fun hHeld => ?_)
                  clear hK9
                  (try simp only [Act.put, List.setIfInBounds_toArray, List.set_cons_zero, List.set_cons_succ])
                  refine wpAnyH_take (i := 58) (oi := { dst := some 251, op := Go.Op.call { callee := Go.Callee.builtin Go.Builtin.len, args := #[Go.Operand.tmp 250], argTypes := #[31] }, type := 3, pos := _, after := #[{ on := 57, ground := Go.Ground.data }, { on := 54, ground := Go.Ground.guard }], guard := some (54, true) }) (v := ?vb57) rfl (by kernel_rfl) (by kernel_rfl) (by kernel_rfl) (fun _ _ _ h => h) (Or.inl ⟨by rfl, ?yb57⟩) (by assumption) ?_
                  case yb57 =>
                    intro w hSw
                    (try dsimp only at hSw)
                    go_simp
                    (try with_reducible rfl)
                  simp only [Act.put, List.setIfInBounds_toArray, List.set_cons_zero, List.set_cons_succ]
                  refine wpAnyH_take (i := 59) (oi := { dst := some 252, op := Go.Op.binOp Go.BinOp.sub 3 (Go.Operand.tmp 248) (Go.Operand.tmp 251) 3, type := 3, pos := _, after := #[{ on := 55, ground := Go.Ground.data }, { on := 58, ground := Go.Ground.data }, { on := 54, ground := Go.Ground.guard }], guard := some (54, true) }) (v := ?vb58) rfl (by kernel_rfl) (by kernel_rfl) (by kernel_rfl) (fun _ _ _ h => h) (Or.inl ⟨by rfl, ?yb58⟩) (by assumption) ?_
                  case yb58 =>
                    intro w hSw
                    (try dsimp only at hSw)
                    go_simp
                    (try with_reducible rfl)
                  simp only [Act.put, List.setIfInBounds_toArray, List.set_cons_zero, List.set_cons_succ]
                  refine wpAnyH_take (i := 61) (oi := { dst := some 254, op := Go.Op.binOp Go.BinOp.eql 3 (Go.Operand.tmp 252) (Go.Operand.tmp 253) 3, type := 4, pos := _, after := #[{ on := 59, ground := Go.Ground.data }, { on := 60, ground := Go.Ground.data }, { on := 54, ground := Go.Ground.guard }], guard := some (54, true) }) (v := ?vb59) rfl (by kernel_rfl) (by kernel_rfl) (by kernel_rfl) (fun _ _ _ h => h) (Or.inl ⟨by rfl, ?yb59⟩) (by assumption) ?_
                  case yb59 =>
                    intro w hSw
                    (try dsimp only at hSw)
                    go_simp
                    (try with_reducible rfl)
                  simp only [Act.put, List.setIfInBounds_toArray, List.set_cons_zero, List.set_cons_succ]
                  refine wpAnyH_take (i := 62) (oi := { dst := some 255, op := Go.Op.pick (Go.Operand.tmp 247) (Go.Operand.tmp 254) (Go.Operand.const (Go.Value.bool false)), type := 4, pos := _, after := #[{ on := 54, ground := Go.Ground.data }, { on := 61, ground := Go.Ground.data }], guard := none }) (v := ?vb60) rfl (by kernel_rfl) (by kernel_rfl) (by kernel_rfl) (fun _ _ _ h => h) (Or.inl ⟨by rfl, ?yb60⟩) (by assumption) ?_
                  case yb60 =>
                    intro w hSw
                    (try dsimp only at hSw)
                    go_simp
                    (try with_reducible rfl)
                  simp only [Act.put, List.setIfInBounds_toArray, List.set_cons_zero, List.set_cons_succ]
                  refine wpAnyH_take (i := 63) (oi := { dst := some 8, op := Go.Op.assign (Go.Operand.tmp 255), type := 4, pos := _, after := ([{ on := 62, ground := Go.Ground.data }, { on := 57, ground := Go.Ground.chain }, { on := 0, ground := Go.Ground.phase }, { on := 1, ground := Go.Ground.phase }, { on := 2, ground := Go.Ground.phase }, { on := 3, ground := Go.Ground.phase }, { on := 4, ground := Go.Ground.phase }, { on := 5, ground := Go.Ground.phase }, { on := 6, ground := Go.Ground.phase }, { on := 7, ground := Go.Ground.phase }, { on := 8, ground := Go.Ground.phase }, { on := 9, ground := Go.Ground.phase }, { on := 10, ground := Go.Ground.phase }, { on := 11, ground := Go.Ground.phase }, { on := 12, ground := Go.Ground.phase }, { on := 13, ground := Go.Ground.phase }, { on := 14, ground := Go.Ground.phase }, { on := 15, ground := Go.Ground.phase }, { on := 16, ground := Go.Ground.phase }, { on := 17, ground := Go.Ground.phase }, { on := 18, ground := Go.Ground.phase }, { on := 19, ground := Go.Ground.phase }, { on := 20, ground := Go.Ground.phase }, { on := 21, ground := Go.Ground.phase }, { on := 22, ground := Go.Ground.phase }, { on := 23, ground := Go.Ground.phase }, { on := 24, ground := Go.Ground.phase }, { on := 25, ground := Go.Ground.phase }, { on := 26, ground := Go.Ground.phase }, { on := 27, ground := Go.Ground.phase }, { on := 28, ground := Go.Ground.phase }, { on := 29, ground := Go.Ground.phase }].append [{ on := 30, ground := Go.Ground.phase }, { on := 31, ground := Go.Ground.phase }, { on := 32, ground := Go.Ground.phase }, { on := 33, ground := Go.Ground.phase }, { on := 34, ground := Go.Ground.phase }, { on := 35, ground := Go.Ground.phase }, { on := 36, ground := Go.Ground.phase }, { on := 37, ground := Go.Ground.phase }, { on := 38, ground := Go.Ground.phase }, { on := 39, ground := Go.Ground.phase }, { on := 40, ground := Go.Ground.phase }, { on := 41, ground := Go.Ground.phase }, { on := 42, ground := Go.Ground.phase }, { on := 43, ground := Go.Ground.phase }, { on := 44, ground := Go.Ground.phase }, { on := 45, ground := Go.Ground.phase }, { on := 46, ground := Go.Ground.phase }, { on := 47, ground := Go.Ground.phase }, { on := 48, ground := Go.Ground.phase }, { on := 49, ground := Go.Ground.phase }, { on := 50, ground := Go.Ground.phase }, { on := 51, ground := Go.Ground.phase }, { on := 52, ground := Go.Ground.phase }, { on := 53, ground := Go.Ground.phase }, { on := 54, ground := Go.Ground.phase }, { on := 55, ground := Go.Ground.phase }, { on := 56, ground := Go.Ground.phase }, { on := 57, ground := Go.Ground.phase }, { on := 58, ground := Go.Ground.phase }, { on := 59, ground := Go.Ground.phase }, { on := 60, ground := Go.Ground.phase }, { on := 61, ground := Go.Ground.phase }, { on := 62, ground := Go.Ground.phase }]).toArray, guard := none }) (v := ?vb61) rfl (by kernel_rfl) (by kernel_rfl) (by kernel_rfl) (fun _ _ _ h => h) (Or.inl ⟨by rfl, ?yb61⟩) (by assumption) ?_
                  case yb61 =>
                    intro w hSw
                    (try dsimp only at hSw)
                    go_simp
                    (try with_reducible rfl)
                  simp only [Act.put, List.setIfInBounds_toArray, List.set_cons_zero, List.set_cons_succ]
                  refine wpAnyH_done (by kernel_rfl) ?_ _
                  refine NoPanic.normal ?_
                  go_wp2_with fail
                  go_ret
                  exact ⟨rfl, HW.out _ hHeld.1⟩

end Go.Proofs.YtcfemppdeidjmacGreat.To
