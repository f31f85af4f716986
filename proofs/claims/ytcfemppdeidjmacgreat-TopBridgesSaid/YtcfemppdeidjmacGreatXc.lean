/-
  TopBridges: an edge is dropped, and put back.
-/
import Derived.Test.YtcfemppdeidjmacGreatXb
namespace Go.Proofs.YtcfemppdeidjmacGreat.To
set_option linter.unusedSectionVars false
variable [Inhabited Zed] [Inhabited (PLift ((default : Zed).n ≤ 0))]
open Go.RowKit Go.Deep
open Go.RowKit (Below)
set_option linter.unusedVariables false

variable {w w' wr w0 : World} {G : Gr.GPl} {A E P Q L : List (Nat × Nat)} {e : Nat × Nat} {m n j N c : Nat} {a ad : Option Addr} {p q : Nat → Nat} {f : Nat → Int × Int × Int}

/-- An edge, in a variable of its own. -/
theorem var2_below (w : World) (u v : Nat) : Below w.heap.size w (w.alloc (.cells #[.int .i64 (u : Nat), .int .i64 (v : Nat)] 44)) := (Below.refl _ _).alloc (Nat.le_refl _) _
theorem var2_li (w : World) (u v : Nat) (hF : ∀ b, Gr.GFoot G b → b < w.heap.size) : Li G (w.alloc (.cells #[.int .i64 (u : Nat), .int .i64 (v : Nat)] 44)) (some ⟨w.heap.size, 0, none⟩) 1 1 [(u, v)] := by
  refine ⟨⟨fun i hi => ⟨w.heap.size, rfl, ?_, ?_⟩⟩, fun g e q => ?_, rfl, Nat.le_refl _, by decide⟩
  · obtain rfl : i = 0 := by simpa using hi
    rw [cell_of_row _ _ _ _ _ _ (blk_alloc_new _ _)]
    rfl
  · obtain rfl : i = 0 := by simpa using hi
    rw [cell_of_row _ _ _ _ _ _ (blk_alloc_new _ _)]
    rfl
  · cases e
    have := hF _ q
    omega

theorem parts_nil (hp : Rest [] p) (n : Nat) : partsOf n p = n := by
  have h := (forest_parts (n := n) (E := []) (p := p) (fun e he => by cases he) hp).1
  have h2 : partsOf n p ≤ n := by unfold partsOf cnt; exact Nat.le_trans List.countP_le_length (by simp)
  simp at h
  omega

theorem take_mem (h : j < L.length) : (e ∈ L.take (j + 1)) ↔ (e ∈ L.take j ∨ L.getD j (0, 0) = e) := by
  rw [List.take_add_one, List.mem_append, List.getElem?_eq_getElem h, List.getD_eq_getElem?_getD, List.getElem?_eq_getElem h]
  simp [eq_comm]

set_option maxRecDepth 100000 in
set_option maxHeartbeats 32000000 in
theorem top_bridges (O : OneOk) {c : Nat} (h : As.EvAt w ad m f) (n k : Int) (hk : -9223372036854775808 ≤ k ∧ k ≤ 9223372036854775807) :
    Calls Tryz.prog 4 #[.int .i64 n, .slice ad m c, .int .i64 k] w fun e w' => e = .returned (.bool true) ∧ Below w.heap.size w w' := by
  have HH : Hid (As.EvAt w ad m f) := h
  have HK : Hid (-9223372036854775808 ≤ k ∧ k ≤ 9223372036854775807) := hk
  clear h hk
  go_enter Tryz.func4, Tryz.ntmps4
  go_wp2_with fail
  refine (O (w := w)).mono ?_
  rintro e w1 ⟨rfl, hb1⟩
  have HB1 : Hid (Below w.heap.size w w1) := hb1
  clear O hb1
  go_wp2_with fail
  by_cases hn : n < 1 ∨ 60 < n
  · refine (drawn_no n hn).mono ?_
    rintro e w2 ⟨rfl, rfl⟩
    clear hn
    go_wp2_with fail
    go_ret
    exact ⟨rfl, HB1.out⟩
  obtain ⟨n, rfl⟩ := Int.eq_ofNat_of_zero_le (show 0 ≤ n by omega)
  refine (drawn_any (HH.out.below HB1.out) n (by omega) (by omega)).mono ?_
  clear hn
  rintro e w2 ⟨G, rfl, rfl, A, hd, hl⟩
  have H2 : Hid (Dr w1 G A w2 ∧ A.length ≤ 120) := ⟨hd, hl⟩
  clear hd hl HH
  go_wp2_with fail
  refine (dr_edges H2.out.1).mono ?_
  rintro e w3 ⟨al, ca, rfl, hb3, hE⟩
  obtain ⟨N, hN⟩ : ∃ N, A.length = N := ⟨_, rfl⟩
  rw [hN] at hE ⊢
  have H3 : Hid (Dr w1 G A w3 ∧ Li G w3 al N ca A ∧ A.length = N ∧ N ≤ 120) := ⟨H2.out.1.step hb3, hE, hN, hN ▸ H2.out.2⟩
  clear hb3 hE hN H2
  have HE : Hid (∀ w', Below w1.heap.size w1 w' → Below w.heap.size w w') := fun w' h => HB1.out.trans (h.mono HB1.out.size)
  clear HB1
  obtain ⟨p, hp⟩ := rest_of A
  have HP : Hid (Rest A p) := hp
  clear hp
  by_cases h0 : N = 0
  · subst h0
    have hA : A = [] := List.eq_nil_of_length_eq_zero H3.out.2.2.1
    have HK0 : Hid (partsOf G.n p = G.n) := parts_nil (hA ▸ HP.out) _
    have t0 : (((0 : Nat) : Int) == (0 : Int)) = true := rfl
    have t1 : (((G.n : Nat) : Int) == (G.n : Int)) = true := beq_self_eq_true _
    clear hA
    go_wp2_with fail
    refine (dr_parts H3.out.1 HP.out G.n HK0.out).mono ?_
    rintro e w4 ⟨rfl, hb4⟩
    have HB4 : Hid (Below w.heap.size w w4) := HE.out _ (H3.out.1.step hb4).old
    clear hb4
    go_wp2_with fail
    go_ret
    exact ⟨rfl, HB4.out⟩
  have t0 : ((N : Int) == (0 : Int)) = false := by rw [beq_eq_false_iff_ne]; omega
  have HN : Hid (0 < N) := show _ < _ by omega
  clear h0
  go_wp2_with fail
  refine (Br.bridges_ok (c := ca) H3.out.2.1.eg (H3.out.1.valid H3.out.2.2.1)).mono ?_
  rintro e w4 ⟨v, L, rfl, hbrs, hown, hb4⟩
  rw [fn_edges H3.out.2.2.1] at hbrs
  obtain ⟨ab, cb, rfl, hLb⟩ := own_li (G := G) hown (fun b q => H3.out.1.foot q)
  obtain ⟨M, hM⟩ : ∃ M, L.length = M := ⟨_, rfl⟩
  rw [hM] at hLb ⊢
  have H4 : Hid (Dr w1 G A w4 ∧ Li G w4 al N ca A ∧ Li G w4 ab M cb L) := ⟨H3.out.1.step hb4, H3.out.2.1.below hb4, hLb⟩
  have HBr : Hid (Br.Brs A L ∧ L.length = M ∧ A.length = N ∧ N ≤ 120) := ⟨hbrs, hM, H3.out.2.2⟩
  clear hbrs hown hb4 hM hLb H3 t0
  go_wp2_with fail
  refine (pick_any k N _ HK.out HN.out (by have := HBr.out.2.2.2; omega)).mono ?_
  rintro e w5 ⟨i, hi, rfl, rfl⟩
  obtain ⟨b, rfl, c0, c1⟩ := H4.out.2.1.at_.cell i (by rw [H4.out.2.1.len]; exact hi)
  obtain ⟨x, hx⟩ : ∃ x, A.getD i (0, 0) = x := ⟨_, rfl⟩
  obtain ⟨u, v⟩ := x
  rw [hx] at c0 c1
  have hxA : (u, v) ∈ A := by
    rw [← hx, List.getD_eq_getElem?_getD, List.getElem?_eq_getElem (by rw [H4.out.2.1.len]; exact hi)]
    exact List.getElem_mem _
  have HX : Hid ((u, v) ∈ A ∧ u < v ∧ v < G.n) := ⟨hxA, H4.out.1.among _ hxA⟩
  obtain ⟨vx, hvx⟩ : ∃ vx, w5.heap.size = vx := ⟨_, rfl⟩
  obtain ⟨W5, hW5⟩ : ∃ W5, w5.alloc (.cells #[.int .i64 (u : Nat), .int .i64 (v : Nat)] 44) = W5 := ⟨_, rfl⟩
  have H5 : Hid (Dr w1 G A W5 ∧ Li G W5 (some ⟨b, 0, none⟩) N ca A ∧ Li G W5 ab M cb L ∧ Li G W5 (some ⟨vx, 0, none⟩) 1 1 [(u, v)]) := by
    have hb := var2_below w5 u v
    have hl := var2_li (G := G) w5 u v (fun b q => H4.out.1.foot q)
    rw [hW5] at hb hl
    rw [hvx] at hl
    exact ⟨H4.out.1.step hb, H4.out.2.1.below hb, H4.out.2.2.below hb, hl⟩
  have i0 : (0 : Int) ≤ (i : Int) := by omega
  have i1 : (i : Int) < (N : Int) := by omega
  clear hx hxA hi H4
  go_wp2_with (first | rw [hvx, hW5] | rw [hW5])
  clear c0 c1 i0 i1 hvx hW5
  obtain ⟨K, hK⟩ : ∃ K, partsOf G.n p = K := ⟨_, rfl⟩
  refine (dr_parts H5.out.1 HP.out K hK).mono ?_
  rintro e w6 ⟨rfl, hb6⟩
  have H6 : Hid (Dr w1 G A w6 ∧ Li G w6 (some ⟨b, 0, none⟩) N ca A ∧ Li G w6 ab M cb L ∧ Li G w6 (some ⟨vx, 0, none⟩) 1 1 [(u, v)]) := ⟨H5.out.1.step hb6, H5.out.2.1.below hb6, H5.out.2.2.1.below hb6, H5.out.2.2.2.below hb6⟩
  have HKp : Hid (partsOf G.n p = K ∧ K ≤ 60) := ⟨hK, by
    rw [← hK]
    unfold partsOf cnt
    have := H5.out.1.n60
    exact Nat.le_trans (Nat.le_trans List.countP_le_length (by simp)) this.2⟩
  clear hb6 H5 hK
  obtain ⟨bx, ex, x0, x1⟩ := H6.out.2.2.2.at_.cell 0 (by simp)
  cases ex
  go_wp2_with fail
  refine (dr_drop H6.out.1 HX.out.1).mono ?_
  rintro e w7 ⟨rfl, P, Q, hA, hd7, t7⟩
  have H7 : Hid (Dr w1 G (P ++ Q) w7 ∧ Li G w7 (some ⟨b, 0, none⟩) N ca A ∧ Li G w7 ab M cb L ∧ Li G w7 (some ⟨vx, 0, none⟩) 1 1 [(u, v)]) := ⟨hd7, H6.out.2.1.turn t7, H6.out.2.2.1.turn t7, H6.out.2.2.2.turn t7⟩
  have HA : Hid (A = P ++ (u, v) :: Q) := hA
  have HU : Hid (Rises A) := H6.out.1.up
  clear hd7 t7 hA x0 x1 H6
  go_wp2_with fail
  go_loopw [15, 16] (fun is i wr => ∃ j : Nat, j ≤ M ∧ i = .int .i64 (j : Nat) ∧ is = .bool (decide ((u, v) ∈ L.take j)) ∧ Below w7.heap.size w7 wr) (fun _ i _ => M - (intOf i).toNat)
  case atStart => exact ⟨0, Nat.zero_le _, rfl, by simp, Below.refl _ _⟩
  case round =>
    obtain ⟨j, hj, rfl, rfl, hb⟩ := hrel
    have HL : Hid (Dr w1 G (P ++ Q) wr ∧ Li G wr (some ⟨b, 0, none⟩) N ca A ∧ Li G wr ab M cb L ∧ Li G wr (some ⟨vx, 0, none⟩) 1 1 [(u, v)]) := ⟨H7.out.1.step hb, H7.out.2.1.below hb, H7.out.2.2.1.below hb, H7.out.2.2.2.below hb⟩
    have HB : Hid (Below w7.heap.size w7 wr.drew) := hb.drew
    clear hb
    have hm : M ≤ 200 := by
      obtain ⟨t, _, e⟩ := HBr.out.1
      have h1 := HBr.out.2.1
      have h2 : L.length ≤ A.length := by rw [e]; exact List.length_filter_le _ _
      have := HBr.out.2.2
      omega
    by_cases hlt : j < M
    · have hjl : j < L.length := by rw [HBr.out.2.1]; exact hlt
      have htm := take_mem (e := (u, v)) hjl
      obtain ⟨bb, rfl, y0, y1⟩ := HL.out.2.2.1.at_.cell j hjl
      obtain ⟨bx, ex, x0, x1⟩ := HL.out.2.2.2.at_.cell 0 (by simp)
      cases ex
      obtain ⟨z, hz⟩ : ∃ z, L.getD j (0, 0) = z := ⟨_, rfl⟩
      rw [hz] at y0 y1 htm
      obtain ⟨z0, z1⟩ := z
      have i0 : (0 : Int) ≤ (j : Int) := by omega
      have i1 : (j : Int) < (M : Int) := by omega
      have j5 : IntKind.i64.wrap ((j : Int) + 1) = (j : Int) + 1 := by rw [IntKind.wrap_i64]; omega
      clear hz hm
      by_cases hin : (u, v) ∈ L.take j
      · have HT : Hid (decide ((u, v) ∈ L.take (j + 1)) = true) := decide_eq_true (htm.2 (Or.inl hin))
        rw [decide_eq_true hin]
        clear hin htm
        go_wp2_with fail
        go_region
        go_wp2_with fail
        go_roundw
        case rel => exact ⟨j + 1, by omega, by go_num, by rw [HT.out], HB.out⟩
        case measure => simp [intOf]; omega
      · rw [decide_eq_false hin]
        by_cases hz : (z0, z1) = (u, v)
        · obtain ⟨rfl, rfl⟩ := Prod.mk.inj hz
          have HT : Hid (decide ((z0, z1) ∈ L.take (j + 1)) = true) := decide_eq_true (htm.2 (Or.inr rfl))
          have s0 : ((z0 : Int) == (z0 : Int)) = true := beq_self_eq_true _
          have s1 : ((z1 : Int) == (z1 : Int)) = true := beq_self_eq_true _
          clear hin htm hz
          go_wp2_with fail
          go_region
          go_wp2_with fail
          go_roundw
          case rel => exact ⟨j + 1, by omega, by go_num, by rw [HT.out], HB.out⟩
          case measure => simp [intOf]; omega
        · have HT : Hid (decide ((u, v) ∈ L.take (j + 1)) = false) := decide_eq_false (fun q => (htm.1 q).elim hin hz)
          by_cases h0 : z0 = u
          · have h1 : z1 ≠ v := fun e => hz (by rw [h0, e])
            have s0 : ((z0 : Int) == (u : Int)) = true := by rw [h0]; exact beq_self_eq_true _
            have s1 : ((z1 : Int) == (v : Int)) = false := by rw [beq_eq_false_iff_ne]; omega
            clear hin htm hz h0 h1
            go_wp2_with fail
            go_region
            go_wp2_with fail
            go_roundw
            case rel => exact ⟨j + 1, by omega, by go_num, by rw [HT.out], HB.out⟩
            case measure => simp [intOf]; omega
          · have s0 : ((z0 : Int) == (u : Int)) = false := by rw [beq_eq_false_iff_ne]; omega
            clear hin htm hz h0
            go_wp2_with fail
            go_region
            go_wp2_with fail
            go_roundw
            case rel => exact ⟨j + 1, by omega, by go_num, by rw [HT.out], HB.out⟩
            case measure => simp [intOf]; omega
    · obtain rfl : j = M := by omega
      rw [show L.take j = L by rw [List.take_of_length_le (by rw [HBr.out.2.1]; exact Nat.le_refl _)]]
      have hbr : ((u, v) ∈ L) ↔ ¬ Conn (P ++ Q) u v := by
        obtain ⟨t, h1, h2⟩ := HBr.out.1
        have hu := HU.out
        have hxa := HX.out.1
        rw [h2, List.mem_filter, h1 _ hxa]
        rw [HA.out] at hu ⊢
        rw [Br.bridge_new hu]
        exact ⟨fun q => q.2, fun q => ⟨by simp, q⟩⟩
      obtain ⟨q, hq⟩ := rest_of (P ++ Q)
      have HQ : Hid (Rest (P ++ Q) q) := hq
      have hpd := parts_drop (n := G.n) (HA.out ▸ HP.out) hq (show (u, v).1 < G.n by have := HX.out; show u < G.n; omega) (show (u, v).2 < G.n from HX.out.2.2)
      rw [HKp.out.1] at hpd
      obtain ⟨bx, ex, x0, x1⟩ := HL.out.2.2.2.at_.cell 0 (by simp)
      cases ex
      have k60 := HKp.out.2
      have i1 : ¬ (j : Int) < (j : Int) := by omega
      have w1' : IntKind.i64.wrap ((K : Int) + 1) = ((K + 1 : Nat) : Int) := by rw [IntKind.wrap_i64]; omega
      clear hq hlt hj hm H7 HB
      by_cases hcn : Conn (P ++ Q) u v
      · have hd : decide ((u, v) ∈ L) = false := decide_eq_false fun q => hbr.1 q hcn
        have HK2 : Hid (partsOf G.n q = K) := hpd.1 hcn
        have HJ : Hid (∀ w', Dr w1 G (P ++ Q) w' → Calls Tryz.prog 10 #[.pointer (some ⟨G.g, 0, none⟩), .int .i64 (u : Int), .int .i64 (v : Int)] w' fun e w'' => e = .returned (.tuple #[.bool true, .nilIface]) ∧ Below w'.heap.size w' w'') := fun w' h => dr_joined h u v (by have := HX.out; omega) HX.out.2.2 true ⟨fun _ => hcn, fun _ => rfl⟩
        have t1 : ((K : Int) == ((K + 1 : Nat) : Int)) = false := by rw [beq_eq_false_iff_ne]; omega
        have t2 : ((K : Int) == (K : Int)) = true := beq_self_eq_true _
        rw [hd]
        clear hd hbr hpd hcn
        go_wp2_with fail
        refine (HJ.out wr HL.out.1).mono ?_
        rintro e w8 ⟨rfl, hb8⟩
        have H8 : Hid (Dr w1 G (P ++ Q) w8 ∧ Li G w8 (some ⟨b, 0, none⟩) N ca A ∧ Li G w8 (some ⟨vx, 0, none⟩) 1 1 [(u, v)]) := ⟨HL.out.1.step hb8, HL.out.2.1.below hb8, HL.out.2.2.2.below hb8⟩
        clear hb8 x0 x1
        go_wp2_with fail
        refine (dr_parts H8.out.1 HQ.out _ HK2.out).mono ?_
        rintro e w9 ⟨rfl, hb9⟩
        have H9 : Hid (Dr w1 G (P ++ Q) w9 ∧ Li G w9 (some ⟨b, 0, none⟩) N ca A ∧ Li G w9 (some ⟨vx, 0, none⟩) 1 1 [(u, v)]) := ⟨H8.out.1.step hb9, H8.out.2.1.below hb9, H8.out.2.2.below hb9⟩
        clear hb9
        go_wp2_with fail
        refine (dr_parts H9.out.1 HQ.out _ HK2.out).mono ?_
        rintro e w10 ⟨rfl, hb10⟩
        have H10 : Hid (Dr w1 G (P ++ Q) w10 ∧ Li G w10 (some ⟨b, 0, none⟩) N ca A ∧ Li G w10 (some ⟨vx, 0, none⟩) 1 1 [(u, v)]) := ⟨H9.out.1.step hb10, H9.out.2.1.below hb10, H9.out.2.2.below hb10⟩
        clear hb10
        obtain ⟨bx, ex, x0, x1⟩ := H10.out.2.2.at_.cell 0 (by simp)
        cases ex
        go_wp2_with fail
        refine (dr_back (e := (u, v)) H10.out.1 (HA.out ▸ HU.out) HX.out.2 (by have h1 := HBr.out.2.2; rw [HA.out] at h1; simp at h1 ⊢; omega)).mono ?_
        rintro e w11 ⟨rfl, hd11, t11⟩
        rw [← HA.out] at hd11
        have H11 : Hid (Dr w1 G A w11 ∧ Li G w11 (some ⟨b, 0, none⟩) N ca A) := ⟨hd11, H10.out.2.1.turn t11⟩
        clear hd11 t11 x0 x1
        go_wp2_with fail
        refine (dr_parts H11.out.1 HP.out _ HKp.out.1).mono ?_
        rintro e w12 ⟨rfl, hb12⟩
        have H12 : Hid (Dr w1 G A w12 ∧ Li G w12 (some ⟨b, 0, none⟩) N ca A) := ⟨H11.out.1.step hb12, H11.out.2.below hb12⟩
        clear hb12
        go_wp2_with fail
        refine (dr_edges H12.out.1).mono ?_
        rintro e w13 ⟨al2, ca2, rfl, hb13, hE2⟩
        rw [HBr.out.2.2.1] at hE2 ⊢
        have H13 : Hid (Dr w1 G A w13 ∧ Li G w13 (some ⟨b, 0, none⟩) N ca A ∧ Li G w13 al2 N ca2 A) := ⟨H12.out.1.step hb13, H12.out.2.below hb13, hE2⟩
        clear hb13 hE2
        go_wp2_with fail
        refine (edges_same HBr.out.2.2.1 H13.out.2.2.at_ H13.out.2.1.at_ (by have := HBr.out.2.2.2; omega)).mono ?_
        rintro e w14 ⟨rfl, hb14⟩
        have H14 : Hid (Below w.heap.size w w14) := HE.out _ (H13.out.1.step hb14).old
        clear hb14
        go_wp2_with fail
        go_ret
        exact ⟨rfl, H14.out⟩
      · have hd : decide ((u, v) ∈ L) = true := decide_eq_true (hbr.2 hcn)
        have HK2 : Hid (partsOf G.n q = K + 1) := hpd.2 hcn
        have HJ : Hid (∀ w', Dr w1 G (P ++ Q) w' → Calls Tryz.prog 10 #[.pointer (some ⟨G.g, 0, none⟩), .int .i64 (u : Int), .int .i64 (v : Int)] w' fun e w'' => e = .returned (.tuple #[.bool false, .nilIface]) ∧ Below w'.heap.size w' w'') := fun w' h => dr_joined h u v (by have := HX.out; omega) HX.out.2.2 false ⟨fun e => (by cases e), fun e => absurd e hcn⟩
        have t1 : (((K + 1 : Nat) : Int) == (K : Int)) = false := by rw [beq_eq_false_iff_ne]; omega
        have t2 : ((K : Int) == (K : Int)) = true := beq_self_eq_true _
        have t3 : (((K + 1 : Nat) : Int) == ((K + 1 : Nat) : Int)) = true := beq_self_eq_true _
        rw [hd]
        clear hd hbr hpd hcn
        go_wp2_with fail
        refine (HJ.out wr HL.out.1).mono ?_
        rintro e w8 ⟨rfl, hb8⟩
        have H8 : Hid (Dr w1 G (P ++ Q) w8 ∧ Li G w8 (some ⟨b, 0, none⟩) N ca A ∧ Li G w8 (some ⟨vx, 0, none⟩) 1 1 [(u, v)]) := ⟨HL.out.1.step hb8, HL.out.2.1.below hb8, HL.out.2.2.2.below hb8⟩
        clear hb8 x0 x1
        go_wp2_with fail
        refine (dr_parts H8.out.1 HQ.out _ HK2.out).mono ?_
        rintro e w9 ⟨rfl, hb9⟩
        have H9 : Hid (Dr w1 G (P ++ Q) w9 ∧ Li G w9 (some ⟨b, 0, none⟩) N ca A ∧ Li G w9 (some ⟨vx, 0, none⟩) 1 1 [(u, v)]) := ⟨H8.out.1.step hb9, H8.out.2.1.below hb9, H8.out.2.2.below hb9⟩
        clear hb9
        go_wp2_with fail
        refine (dr_parts H9.out.1 HQ.out _ HK2.out).mono ?_
        rintro e w10 ⟨rfl, hb10⟩
        have H10 : Hid (Dr w1 G (P ++ Q) w10 ∧ Li G w10 (some ⟨b, 0, none⟩) N ca A ∧ Li G w10 (some ⟨vx, 0, none⟩) 1 1 [(u, v)]) := ⟨H9.out.1.step hb10, H9.out.2.1.below hb10, H9.out.2.2.below hb10⟩
        clear hb10
        obtain ⟨bx, ex, x0, x1⟩ := H10.out.2.2.at_.cell 0 (by simp)
        cases ex
        go_wp2_with fail
        refine (dr_back (e := (u, v)) H10.out.1 (HA.out ▸ HU.out) HX.out.2 (by have h1 := HBr.out.2.2; rw [HA.out] at h1; simp at h1 ⊢; omega)).mono ?_
        rintro e w11 ⟨rfl, hd11, t11⟩
        rw [← HA.out] at hd11
        have H11 : Hid (Dr w1 G A w11 ∧ Li G w11 (some ⟨b, 0, none⟩) N ca A) := ⟨hd11, H10.out.2.1.turn t11⟩
        clear hd11 t11 x0 x1
        go_wp2_with fail
        refine (dr_parts H11.out.1 HP.out _ HKp.out.1).mono ?_
        rintro e w12 ⟨rfl, hb12⟩
        have H12 : Hid (Dr w1 G A w12 ∧ Li G w12 (some ⟨b, 0, none⟩) N ca A) := ⟨H11.out.1.step hb12, H11.out.2.below hb12⟩
        clear hb12
        go_wp2_with fail
        refine (dr_edges H12.out.1).mono ?_
        rintro e w13 ⟨al2, ca2, rfl, hb13, hE2⟩
        rw [HBr.out.2.2.1] at hE2 ⊢
        have H13 : Hid (Dr w1 G A w13 ∧ Li G w13 (some ⟨b, 0, none⟩) N ca A ∧ Li G w13 al2 N ca2 A) := ⟨H12.out.1.step hb13, H12.out.2.below hb13, hE2⟩
        clear hb13 hE2
        go_wp2_with fail
        refine (edges_same HBr.out.2.2.1 H13.out.2.2.at_ H13.out.2.1.at_ (by have := HBr.out.2.2.2; omega)).mono ?_
        rintro e w14 ⟨rfl, hb14⟩
        have H14 : Hid (Below w.heap.size w w14) := HE.out _ (H13.out.1.step hb14).old
        clear hb14
        go_wp2_with fail
        go_ret
        exact ⟨rfl, H14.out⟩

end Go.Proofs.YtcfemppdeidjmacGreat.To
