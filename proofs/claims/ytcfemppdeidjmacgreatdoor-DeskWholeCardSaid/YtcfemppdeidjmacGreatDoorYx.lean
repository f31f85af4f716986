/-
  DeskWhole returns true, whatever packages desk and disk that answer as they are to.
-/
import Derived.Test.YtcfemppdeidjmacGreatDoorYw
namespace Go.Proofs.YtcfemppdeidjmacGreatDoor.Ds
open Go.RowKit Go.Deep Go.Proofs.YtcfemppdeidjmacGreatDoor.Br
open Go.Proofs.YtcfemppdeidjmacGreatDoor.Dk (EvAt NumAt Er Same)
open Go.Proofs.YtcfemppdeidjmacGreatDoor.Sk (SW Apart Keeps Owns)
open Go.RowKit (Below)
set_option linter.unusedVariables false

variable {w w' wr : World} {D : DFace} {n : Nat} {a1 a2 : Option Addr} {m1 c1 m2 c2 : Nat} {f1 f2 : Nat → Ev} {A : List (Nat × Nat)} {x : Int} {out : List Bool}

theorem does_back {A' : List (Nat × Nat)} {l : List Ev} (h : Does n A l x A' out) (hx : x ≠ 0) : A' = A := by
  rcases h with ⟨_, _, h, _⟩ | ⟨_, ⟨_, h, _⟩ | ⟨h, _⟩⟩
  · exact h
  · exact h
  · exact absurd h hx
theorem does_few {A' : List (Nat × Nat)} {l : List Ev} (h : Does n A l 0 A' out) : l.length ≤ 120 ∧ All n l A 0 A' out := by
  rcases h with ⟨_, h, _⟩ | ⟨_, ⟨h, _⟩ | ⟨_, h⟩⟩
  · exact absurd h (by decide)
  · exact absurd rfl h
  · exact ⟨by assumption, h⟩

set_option maxRecDepth 100000 in
set_option maxHeartbeats 4000000 in
theorem dwhole_bad (O : DeskOk D) (p : Int) (hp : p < 1 ∨ 60 < p) :
    Calls Tryz.prog 5 #[.int .i64 p, .slice a1 m1 c1, .slice a2 m2 c2] w fun e w' => e = .returned (.bool true) ∧ Below w.heap.size w w' := by
  have HP : Hid (p < 1 ∨ 60 < p) := hp
  have HO : Hid (DeskOk D) := O
  clear hp O
  go_enter Tryz.func5, Tryz.ntmps5
  go_wp2_with fail
  refine (d2_new HO.out (Below.refl _ w)).mono ?_
  rintro e w1 ⟨d1, rfl, hz⟩
  have HZ1 : Hid (SW (raw D d1) w w.heap.size (fun _ => False) w1) := hz
  clear hz
  go_wp2_with fail
  refine (d2_second HO.out HZ1.out).mono ?_
  rintro e w2 ⟨d2, rfl, hz⟩
  have HZ2 : Hid (DW (raw D d1) (raw D d2) w (fun _ => False) w2) := hz
  clear hz HZ1
  go_wp2_with fail
  refine (d2_format_bad HO.out HZ2.out p HP.out).mono ?_
  rintro e w3 ⟨rfl, hb⟩
  have HB : Hid (Below w.heap.size w w3) := hb
  clear hb HZ2
  by_cases h1 : p < 1
  · go_wp2_with fail
    go_ret
    exact ⟨rfl, HB.out⟩
  · have h2 : 60 < p := by have := HP.out; omega
    go_wp2_with fail
    go_ret
    exact ⟨rfl, HB.out⟩

set_option maxRecDepth 100000 in
set_option maxHeartbeats 64000000 in
theorem dwhole_ok (O : DeskOk D) (h0 : ErrType w) (he1 : EvAt w a1 m1 f1) (hm1 : m1 ≤ c1) (hc1 : c1 ≤ maxLen) (he2 : EvAt w a2 m2 f2) (hm2 : m2 ≤ c2) (hc2 : c2 ≤ maxLen) (n1 : 1 ≤ n) (n60 : n ≤ 60) :
    Calls Tryz.prog 5 #[.int .i64 (n : Nat), .slice a1 m1 c1, .slice a2 m2 c2] w fun e w' => e = .returned (.bool true) ∧ Below w.heap.size w w' := by
  have HP : Hid (1 ≤ n ∧ n ≤ 60) := ⟨n1, n60⟩
  have HO : Hid (DeskOk D) := O
  have HE : Hid ((EvAt w a1 m1 f1 ∧ m1 ≤ c1 ∧ c1 ≤ maxLen) ∧ EvAt w a2 m2 f2 ∧ m2 ≤ c2 ∧ c2 ≤ maxLen) := ⟨⟨he1, hm1, hc1⟩, he2, hm2, hc2⟩
  clear n1 n60 O he1 hm1 hc1 he2 hm2 hc2
  go_enter Tryz.func5, Tryz.ntmps5
  go_wp2_with fail
  refine (d2_new HO.out (Below.refl _ w)).mono ?_
  rintro e w1 ⟨d1, rfl, hz⟩
  have HZ1 : Hid (SW (raw D d1) w w.heap.size (fun _ => False) w1) := hz
  clear hz
  go_wp2_with fail
  refine (d2_second HO.out HZ1.out).mono ?_
  rintro e w2 ⟨d2, rfl, hz⟩
  have HZ2 : Hid (DW (raw D d1) (raw D d2) w (fun _ => False) w2) := hz
  clear hz HZ1
  go_wp2_with fail
  refine (d2_format (Q := raw D d2) HO.out HO.out.raw_k HO.out.raw_o HZ2.out HP.out.1 HP.out.2).mono ?_
  rintro e w3 ⟨rfl, hz, -⟩
  have HZ3 : Hid (DW (raw D d2) (kept D d1 n [] 1) w (fun _ => False) w3) := hz.swap
  clear hz HZ2
  go_wp2_with fail
  refine (d2_format (Q := kept D d1 n [] 1) HO.out HO.out.kept_k HO.out.kept_o HZ3.out HP.out.1 HP.out.2).mono ?_
  rintro e w4 ⟨rfl, hz, -⟩
  have HZ4 : Hid (DW (kept D d1 n [] 1) (kept D d2 n [] 1) w (fun _ => False) w4) := hz.swap
  clear hz HZ3
  go_wp2_with fail
  refine (d2_open (Q := kept D d2 n [] 1) HO.out HO.out.kept_k HO.out.kept_o HZ4.out (by decide)).mono ?_
  rintro e w5 ⟨k1, rfl, hz, -⟩
  have HZ5 : Hid (DW (kept D d2 n [] 1) (on D d1 n k1 [] [] 1 none) w (fun _ => False) w5) := hz.swap
  clear hz HZ4
  go_wp2_with fail
  refine (d2_open (Q := on D d1 n k1 [] [] 1 none) HO.out HO.out.on_k HO.out.on_o HZ5.out (by decide)).mono ?_
  rintro e w6 ⟨k2, rfl, hz, -⟩
  have HZ6 : Hid (DW (on D d1 n k1 [] [] 1 none) (on D d2 n k2 [] [] 1 none) w (fun _ => False) w6) := hz.swap
  clear hz HZ5
  go_wp2_with fail
  refine (d2_do (Q := on D d2 n k2 [] [] 1 none) HO.out HO.out.on_k HO.out.on_o HZ6.out (HE.out.1.1.below HZ6.out.below) HE.out.1.2.1 HE.out.1.2.2 (fun q => ev_apart HE.out.1.1 q)).mono ?_
  rintro e w7 ⟨v1, x1, A1, out1, oa1, oc1, rfl, her1, hd1, hbl1, -, -, ⟨V7, hz, -, hV⟩, -⟩
  have HD1 : Hid (Er v1 x1 ∧ Does n [] (evl f1 m1) x1 A1 out1) := ⟨her1, hd1⟩
  have hmk : (Instr.makeSlice 39 (.int .i64 121) (.int .i64 121)).run Tryz.prog w7 = .ok (.slice (some ⟨w7.heap.size, 0, none⟩) 121 121) (w7.alloc (nilEv 121)) := run_events 121 (by decide) w7
  have hev := events_at 121 w7
  have hb8 : Below w7.heap.size w7 (w7.alloc (nilEv 121)) := (Below.refl _ _).alloc (Nat.le_refl _) _
  have hz8 := DW.since (P := on D d1 n k1 A1 [] 1 none) (Q := on D d2 n k2 [] [] 1 none) HO.out.on_k HO.out.on_o HO.out.on_k HO.out.on_o hz hb8
  have hE8 : w7.heap.size < (w7.alloc (nilEv 121)).heap.size := by simp
  obtain ⟨W8, hW8⟩ : ∃ W8, w7.alloc (nilEv 121) = W8 := ⟨_, rfl⟩
  obtain ⟨E8, hE88⟩ : ∃ E8, w7.heap.size = E8 := ⟨_, rfl⟩
  rw [hW8] at hmk hev hb8 hz8 hE8
  rw [hE88] at hmk hev hz8 hE8
  have H8 : Hid (DW (on D d1 n k1 A1 [] 1 none) (on D d2 n k2 [] [] 1 none) w (fun b => V7 b ∨ (E8 ≤ b ∧ b < W8.heap.size)) W8 ∧ EvAt W8 (some ⟨E8, 0, none⟩) 121 (fun _ => (0, 0, 0)) ∧ E8 < W8.heap.size ∧ BlAt W8 oa1 out1 ∧ (out1 ≠ [] → ∀ b o, oa1 = some ⟨b, o, none⟩ → V7 b) ∧ Fine n A1) := ⟨hz8, hev, hE8, hbl1.below hb8, hV, d2_fine HO.out hz⟩
  clear her1 hd1 hbl1 hz hV hev hb8 hz8 hE8 HZ6 hW8 hE88
  go_wp2_with fail
  clear hmk
  refine (d2_do (Q := on D d2 n k2 [] [] 1 none) HO.out HO.out.on_k HO.out.on_o H8.out.1 H8.out.2.1 (Nat.le_refl 121) (by decide) (fun _ b o e => Or.inr (Or.inr (by cases e; exact ⟨Nat.le_refl _, H8.out.2.2.1⟩)))).mono ?_
  rintro e w9 ⟨v2, x2, A2, out2, oa2, oc2, rfl, her2, hd2, -, -, -, ⟨V9, hz, hVV, -⟩, hs9, -⟩
  obtain ⟨rfl, rfl, rfl⟩ := hd2.one (full_does (by decide)) H8.out.2.2.2.2.2.up
  have H9 : Hid (DW (on D d1 n k1 A2 [] 1 none) (on D d2 n k2 [] [] 1 none) w V9 w9 ∧ BlAt w9 oa1 out1 ∧ (out1 ≠ [] → ∀ b o, oa1 = some ⟨b, o, none⟩ → V9 b) ∧ Fine n A2) := ⟨hz, H8.out.2.2.2.1.same hs9 fun q b o e => Or.inl (H8.out.2.2.2.2.1 q b o e), fun q b o e => hVV b (Or.inl (H8.out.2.2.2.2.1 q b o e)), H8.out.2.2.2.2.2⟩
  have HEr2 : Hid (Er v2 3) := her2
  clear hd2 hz hVV hs9 her2 H8
  go_wp2_with fail
  refine (error_any (er_is HEr2.out) (h0.below H9.out.1.below)).mono ?_
  rintro e w10 ⟨rfl, hb10⟩
  obtain ⟨NB, hNB⟩ : ∃ NB, w10.heap.size = NB := ⟨_, rfl⟩
  have H10 : Hid (DW (on D d1 n k1 A2 [] 1 none) (on D d2 n k2 [] [] 1 none) w V9 w10 ∧ BlAt w10 oa1 out1 ∧ (out1 ≠ [] → ∀ b o, oa1 = some ⟨b, o, none⟩ → V9 b) ∧ Fine n A2 ∧ w10.heap.size = NB ∧ w.heap.size ≤ NB) := ⟨DW.step (P := on D d1 n k1 A2 [] 1 none) (Q := on D d2 n k2 [] [] 1 none) HO.out.on_k HO.out.on_o HO.out.on_k HO.out.on_o H9.out.1 hb10, H9.out.2.1.below hb10, H9.out.2.2.1, H9.out.2.2.2, hNB, hNB ▸ Nat.le_trans H9.out.1.below.size hb10.size⟩
  have hoaN : out1 ≠ [] → ∀ b o, oa1 = some ⟨b, o, none⟩ → b < NB := fun hne b o e => by
    obtain ⟨b3, o3, e3, hc3⟩ := H10.out.2.1 0 (List.length_pos_iff.2 hne)
    rw [e] at e3
    simp only [Option.some.injEq, Addr.mk.injEq, and_true] at e3
    have := World.block_lt_of_cell? _ _ hc3
    simp at this
    omega
  have HoN : Hid (out1 ≠ [] → ∀ b o, oa1 = some ⟨b, o, none⟩ → b < NB) := hoaN
  have HFA : Hid (Fine n A2 ∧ w.heap.size ≤ NB) := ⟨H10.out.2.2.2.1, H10.out.2.2.2.2.2⟩
  obtain ⟨z0, hi0, hz0, hz1, hz2⟩ := info_parts Tryz.infoBoolD
  clear hb10 H9 hNB hoaN
  go_wp2_with fail
  go_loopw [18, 19, 20] (fun vy vd i wr => ∃ (j : Nat) (B : List (Nat × Nat)) (yo : List Bool) (M : Nat) (V : Nat → Prop) (dn : Bool), j ≤ m1 ∧ i = .int .i64 (j : Nat) ∧ vd = .bool dn ∧ DW (on D d1 n k1 A2 [] 1 none) (on D d2 n k2 B [] 1 none) w V wr ∧ wr.ownsRow NB 4 1 vy M (bls yo) ∧ yo.length = M ∧ M ≤ j ∧ (∀ k, vy.ownBlock = some k → V k) ∧ BlAt wr oa1 out1 ∧ (out1 ≠ [] → ∀ b o, oa1 = some ⟨b, o, none⟩ → V b) ∧ (dn = true → All n (evl f1 j) [] 0 B yo) ∧ (dn = false → ∃ err C o, err ≠ 0 ∧ All n (evl f1 m1) [] err C o) ∧ NB ≤ wr.heap.size) (fun _ _ i _ => m1 - (intOf i).toNat)
  case atStart => exact ⟨0, [], [], 0, V9, true, Nat.zero_le _, rfl, rfl, H10.out.1, World.ownsRow_nil .., rfl, Nat.le_refl _, fun k e => (by cases e), H10.out.2.1, H10.out.2.2.1, fun _ => ⟨rfl, rfl, rfl⟩, fun q => (by cases q), Nat.le_of_eq H10.out.2.2.2.2.1.symm⟩
  case round =>
    clear H10
    obtain ⟨j, B, yo, M, V, dn, hj, rfl, rfl, hdw, hown, hyl, hMj, hyV, hb1, hoV, hyes, hno, hNB⟩ := hrel
    have HJ : Hid (j ≤ m1 ∧ M ≤ j ∧ yo.length = M ∧ NB ≤ wr.heap.size) := ⟨hj, hMj, hyl, hNB⟩
    have HW : Hid (DW (on D d1 n k1 A2 [] 1 none) (on D d2 n k2 B [] 1 none) w V wr ∧ wr.ownsRow NB 4 1 u18 M (bls yo) ∧ (∀ k, u18.ownBlock = some k → V k) ∧ BlAt wr oa1 out1 ∧ (out1 ≠ [] → ∀ b o, oa1 = some ⟨b, o, none⟩ → V b)) := ⟨hdw, hown, hyV, hb1, hoV⟩
    have HYN : Hid ((dn = true → All n (evl f1 j) [] 0 B yo) ∧ (dn = false → ∃ err C o, err ≠ 0 ∧ All n (evl f1 m1) [] err C o)) := ⟨hyes, hno⟩
    have hin : All n (evl f1 m1) [] 0 A2 out1 → True := fun _ => trivial
    clear hj hMj hyl hNB hdw hown hyV hb1 hoV hyes hno hin
    by_cases hlt : j < m1
    · have i0 : (j : Int) < (m1 : Int) := by omega
      by_cases hfew : m1 ≤ 120
      · have i1 : (m1 : Int) ≤ 120 := by omega
        cases dn with
        | false =>
          obtain ⟨ya, yc, rfl, hyb, -, -, -⟩ := own_bl HW.out.2.1 HJ.out.2.2.1
          have HYB : Hid (BlAt wr ya yo) := hyb
          clear hyb
          by_cases hx : x1 = 0
          · exfalso
            obtain ⟨err, C, o, h1, h2⟩ := HYN.out.2 rfl
            have hd := HD1.out.2
            rw [hx] at hd
            exact h1 (h2.one (does_few hd).2 List.Pairwise.nil).1
          · have i2 : ¬ (120 : Int) < (m1 : Int) := by omega
            obtain rfl := Dk.Er.some HD1.out.1 hx
            have hA : A2 = [] := does_back HD1.out.2 hx
            have HA0 : Hid (A2.length = 0) := show _ = _ by rw [hA]; rfl
            clear hA hx
            go_wp2_with fail
            refine (d2_graph (Q := on D d2 n k2 B [] 1 none) HO.out HO.out.on_k HO.out.on_o HW.out.1).mono ?_
            rintro e w20 ⟨gv, rfl, hgr, hz20, hb20⟩
            have H20 : Hid (DW (on D d1 n k1 A2 [] 1 none) (on D d2 n k2 B [] 1 none) w V w20 ∧ D.gr w20 gv n A2) := ⟨hz20, hgr⟩
            clear hgr hz20 hb20
            go_wp2_with fail
            refine (d2_edges (Q := on D d2 n k2 B [] 1 none) HO.out HO.out.on_k HO.out.on_o H20.out.1 H20.out.2).mono ?_
            rintro e w21 ⟨ea, ec, Y21, he, -, -, hz21, -, -, -⟩
            rw [HA0.out] at he
            subst he
            have HB21 : Hid (Below w.heap.size w w21) := hz21.below
            clear hz21 H20
            go_wp2_with fail
            go_ret
            exact ⟨rfl, HB21.out⟩
        | true =>
          have HLt : Hid (j < m1 ∧ m1 ≤ 120) := ⟨hlt, hfew⟩
          obtain ⟨b, o, rfl, q0, q1, q2⟩ := HE.out.1.1 j hlt
          have j5 : IntKind.i64.wrap ((j : Int) + 1) = (j : Int) + 1 := by rw [IntKind.wrap_i64]; omega
          have j0 : (0 : Int) ≤ (j : Int) := by omega
          have j1 : (j : Int) ≤ (j : Int) + 1 := by omega
          have j2 : (j : Int) + 1 ≤ (c1 : Int) := by have := HE.out.1.2.1; omega
          have j3 : ¬ c1 = j := by have := HE.out.1.2.1; omega
          have hev : EvAt w (some ⟨b, o + j * 3, none⟩) 1 (fun k => f1 (j + k)) := fun i hi => by
            have : i = 0 := by omega
            subst this
            exact ⟨b, o + j * 3, rfl, by simpa using q0, by simpa using q1, by simpa using q2⟩
          have HEv : Hid (EvAt w (some ⟨b, o + j * 3, none⟩) 1 (fun k => f1 (j + k)) ∧ 1 ≤ c1 - j ∧ c1 - j ≤ maxLen) := ⟨hev, by have := HE.out.1.2.1; omega, Nat.le_trans (Nat.sub_le _ _) HE.out.1.2.2⟩
          clear hlt hfew q0 q1 q2 hev
          go_wp2_with fail
          refine (d2_do (Q := on D d1 n k1 A2 [] 1 none) HO.out HO.out.on_k HO.out.on_o HW.out.1.swap (HEv.out.1.below HW.out.1.below) HEv.out.2.1 HEv.out.2.2 (fun q => ev_apart HEv.out.1 q)).mono ?_
          rintro e w3 ⟨v, x, B', o1, oz, ocz, he, her, hdz, hblz, hocz, hnil, ⟨V', hz, hVV, hVo⟩, hs, hsz⟩
          have hdz' : Does n B [f1 j] x B' o1 := hdz
          have H3 : Hid (DW (on D d1 n k1 A2 [] 1 none) (on D d2 n k2 B' [] 1 none) w V' w3 ∧ w3.ownsRow NB 4 1 u18 M (bls yo) ∧ (∀ k, u18.ownBlock = some k → V' k) ∧ BlAt w3 oa1 out1 ∧ (out1 ≠ [] → ∀ b o, oa1 = some ⟨b, o, none⟩ → V' b) ∧ NB ≤ w3.heap.size) := ⟨hz.swap, own_block HW.out.2.1 fun k hk => hs k (HW.out.2.2.1 k hk), fun k hk => hVV k (HW.out.2.2.1 k hk), HW.out.2.2.2.1.same hs HW.out.2.2.2.2, fun q b o e => hVV b (HW.out.2.2.2.2 q b o e), Nat.le_trans HJ.out.2.2.2 hsz⟩
          have HEz : Hid (Er v x) := her
          clear hdz hz hVV hVo hs hsz her j1 j2 j3 HW HEv
          rcases does_one hdz' with ⟨rfl, h1⟩ | ⟨hx, rfl, rfl, C, p, h1⟩
          · obtain rfl := Dk.Er.nil HEz.out
            have HM : Hid (All n (evl f1 (j + 1)) [] 0 B' (yo ++ o1)) := more_all (HYN.out.1 (by first | exact rfl | exact trivial)) h1
            have hl1 := h1.len
            cases o1 with
            | nil =>
              subst he
              clear hdz' hblz hocz hnil h1 hl1
              go_wp2_with (first
                | (at_builtin; refine wpList_append_zero rfl (.tmp 112) (.tmp 113) rfl NB u18 M (bls yo) rfl H3.out.2.1 oz ocz rfl ?_))
              go_roundw
              case rel => exact ⟨j + 1, B', yo, M, V', true, by have := HLt.out; omega, by go_num, rfl, H3.out.1, H3.out.2.1, HJ.out.2.2.1, by have := HJ.out; omega, H3.out.2.2.1, H3.out.2.2.2.1, H3.out.2.2.2.2.1, fun _ => by have := HM.out; rwa [List.append_nil] at this, fun q => (by cases q), H3.out.2.2.2.2.2⟩
              case measure => simp [intOf]; have := HLt.out; omega
            | cons q r =>
              obtain rfl : r = [] := List.length_eq_zero_iff.1 (by rw [List.length_cons] at hl1; omega)
              subst he
              obtain ⟨zb, zo, rfl, hzc⟩ := hblz 0 (by simp)
              have HZc : Hid (w3.cell? ⟨zb, zo, none⟩ = some (.bool q)) := hzc
              clear hdz' hblz hocz hnil h1 hl1 hzc
              go_wp2_with (first
                | (at_builtin; refine wpList_append_lies _ rfl (.tmp 112) (.tmp 113) 42 rfl NB 4 z0 (.bool false) 1 1 Tryz.underlying42 hi0 hz0 hz1 hz2 rfl (by decide) u18 M (bls yo) rfl H3.out.2.1 ⟨zb, zo, none⟩ 1 ocz [.bool q] rfl rfl ?c1 ?c2 (by decide) ?c3 ?c4 ?c5 _ rfl ?_))
              case c1 =>
                intro i u hu
                have : i = 0 := by
                  rcases i with _ | i
                  · rfl
                  · simp at hu
                subst this
                simp at hu
                subst hu
                rw [Addr.add_lit]
                exact HZc.out
              case c2 => intro u hu; simp at hu; subst hu; rfl
              case c3 => unfold maxLen; have := HJ.out; have := HLt.out; omega
              case c4 => have := HJ.out; have := HLt.out; omega
              case c5 => exact H3.out.2.2.2.2.2
              intro g9 cap9 w9 hown9 hgrow hat hlt9
              have hdw9 := DW.grown (P := on D d1 n k1 A2 [] 1 none) (Q := on D d2 n k2 B' [] 1 none) HO.out.on_k HO.out.on_o HO.out.on_k HO.out.on_o H3.out.1 hgrow fun k e => ⟨H3.out.2.2.1 k e, Nat.le_trans HFA.out.2 (H3.out.2.1.lt k e).1⟩
              have H9 : Hid (DW (on D d1 n k1 A2 [] 1 none) (on D d2 n k2 B' [] 1 none) w (fun b => V' b ∨ (w3.heap.size ≤ b ∧ b < w9.heap.size)) w9 ∧ w9.ownsRow NB 4 1 (.slice (some ⟨g9, 0, none⟩) (M + 1) cap9) (M + 1) (bls (yo ++ [q])) ∧ (∀ k, (Value.slice (some ⟨g9, 0, none⟩) (M + 1) cap9).ownBlock = some k → (fun b => V' b ∨ (w3.heap.size ≤ b ∧ b < w9.heap.size)) k) ∧ BlAt w9 oa1 out1 ∧ (out1 ≠ [] → ∀ b o, oa1 = some ⟨b, o, none⟩ → (fun b => V' b ∨ (w3.heap.size ≤ b ∧ b < w9.heap.size)) b) ∧ NB ≤ w9.heap.size) := by
                refine ⟨hdw9, ?_, fun k e => ?_, fun i hi => ?_, fun q b o e => Or.inl (H3.out.2.2.2.2.1 q b o e), Nat.le_trans H3.out.2.2.2.2.2 hgrow.size⟩
                · rw [show bls (yo ++ [q]) = bls yo ++ [.bool q] by simp [bls]]
                  exact hown9
                · have : g9 = k := by simpa [Value.ownBlock] using e
                  subst this
                  rcases hat with e2 | e2
                  · exact Or.inl (H3.out.2.2.1 _ e2)
                  · exact Or.inr ⟨Nat.le_of_eq e2.symm, hlt9⟩
                · obtain ⟨b', o', e, hc⟩ := H3.out.2.2.2.1 i hi
                  have hne : out1 ≠ [] := fun q => by rw [q] at hi; cases hi
                  refine ⟨b', o', e, hgrow.cell hc fun e2 => ?_⟩
                  have h1 := HoN.out hne b' o' e
                  have h2 := (H3.out.2.1.lt b' e2.symm).1
                  omega
              clear hown9 hgrow hat hlt9 hdw9 HZc
              go_wp2_with fail
              go_roundw
              case rel => exact ⟨j + 1, B', yo ++ [q], M + 1, _, true, by have := HLt.out; omega, by go_num, rfl, H9.out.1, H9.out.2.1, by rw [List.length_append, HJ.out.2.2.1]; rfl, by have := HJ.out; omega, H9.out.2.2.1, H9.out.2.2.2.1, H9.out.2.2.2.2.1, fun _ => HM.out, fun q => (by cases q), H9.out.2.2.2.2.2⟩
              case measure => simp [intOf]; have := HLt.out; omega
          · subst he
            obtain rfl := Dk.Er.some HEz.out hx
            have HNo : Hid (∃ err C o, err ≠ 0 ∧ All n (evl f1 m1) [] err C o) := by
              obtain ⟨r, hr⟩ := evl_split (f := f1) HLt.out.1
              obtain ⟨o'', h2⟩ := (HYN.out.1 (by first | exact rfl | exact trivial)).stop (r := r) hx h1
              exact ⟨x, C, o'', hx, by rw [hr]; exact h2⟩
            clear hdz' hblz hocz hnil h1 hx HEz
            go_wp2_with (first
              | (at_builtin; refine wpList_append_zero rfl (.tmp 112) (.tmp 113) rfl NB u18 M (bls yo) rfl H3.out.2.1 oz ocz rfl ?_))
            go_roundw
            case rel => exact ⟨j + 1, _, yo, M, V', false, by have := HLt.out; omega, by go_num, rfl, H3.out.1, H3.out.2.1, HJ.out.2.2.1, by have := HJ.out; omega, H3.out.2.2.1, H3.out.2.2.2.1, H3.out.2.2.2.2.1, fun q => (by cases q), fun _ => HNo.out, H3.out.2.2.2.2.2⟩
            case measure => simp [intOf]; have := HLt.out; omega
      · have i1 : ¬ (m1 : Int) ≤ 120 := by omega
        have i2 : (120 : Int) < (m1 : Int) := by omega
        have hx : x1 ≠ 0 := fun q => by
          have hd := HD1.out.2
          rw [q] at hd
          have := (does_few hd).1
          rw [evl_len] at this
          omega
        obtain ⟨ya, yc, rfl, hyb, -, -, -⟩ := own_bl HW.out.2.1 HJ.out.2.2.1
        have HYB : Hid (BlAt wr ya yo) := hyb
        clear hyb
        obtain rfl := Dk.Er.some HD1.out.1 hx
        have hA : A2 = [] := does_back HD1.out.2 hx
        have HA0 : Hid (A2.length = 0) := show _ = _ by rw [hA]; rfl
        clear hA hx
        go_wp2_with fail
        refine (d2_graph (Q := on D d2 n k2 B [] 1 none) HO.out HO.out.on_k HO.out.on_o HW.out.1).mono ?_
        rintro e w20 ⟨gv, rfl, hgr, hz20, hb20⟩
        have H20 : Hid (DW (on D d1 n k1 A2 [] 1 none) (on D d2 n k2 B [] 1 none) w V w20 ∧ D.gr w20 gv n A2) := ⟨hz20, hgr⟩
        clear hgr hz20 hb20
        go_wp2_with fail
        refine (d2_edges (Q := on D d2 n k2 B [] 1 none) HO.out HO.out.on_k HO.out.on_o H20.out.1 H20.out.2).mono ?_
        rintro e w21 ⟨ea, ec, Y21, he, -, -, hz21, -, -, -⟩
        rw [HA0.out] at he
        subst he
        have HB21 : Hid (Below w.heap.size w w21) := hz21.below
        clear hz21 H20
        go_wp2_with fail
        go_ret
        exact ⟨rfl, HB21.out⟩
    · have i0 : ¬ (j : Int) < (m1 : Int) := by omega
      have hjm : j = m1 := by have := HJ.out; omega
      obtain ⟨ya, yc, rfl, hyb, -, -, -⟩ := own_bl HW.out.2.1 HJ.out.2.2.1
      have HYB : Hid (BlAt wr ya yo) := hyb
      clear hyb
      by_cases hx : x1 = 0
      · have hd := HD1.out.2
        rw [hx] at hd
        have hfw := does_few hd
        have hm : m1 ≤ 120 := by have := hfw.1; rwa [evl_len] at this
        cases dn with
        | false =>
          exfalso
          obtain ⟨err, C, o, h1, h2⟩ := HYN.out.2 rfl
          exact h1 (h2.one hfw.2 List.Pairwise.nil).1
        | true =>
          have hall := HYN.out.1 (by first | exact rfl | exact trivial)
          rw [hjm] at hall
          have hsame := hd.one (done_does hall hm) List.Pairwise.nil
          obtain rfl := Dk.Er.nil (by have := HD1.out.1; rwa [hx] at this)
          obtain ⟨-, hAB, hoy⟩ := hsame
          subst hAB
          subst hoy
          have HM : Hid (out1.length = M) := HJ.out.2.2.1
          rw [HM.out]
          have HMs : Hid (M < 1000000) := show _ < _ by have := HJ.out; omega
          clear hd hfw hall hx hm
          go_wp2_with fail
          refine (As.bools_same (bl_at HW.out.2.2.2.1 HM.out) (bl_at HYB.out HM.out) HMs.out).mono ?_
          rintro e w20 ⟨rfl, hb20⟩
          have H20 : Hid (DW (on D d1 n k1 A2 [] 1 none) (on D d2 n k2 A2 [] 1 none) w V w20) := DW.step (P := on D d1 n k1 A2 [] 1 none) (Q := on D d2 n k2 A2 [] 1 none) HO.out.on_k HO.out.on_o HO.out.on_k HO.out.on_o HW.out.1 hb20
          clear hb20
          go_wp2_with fail
          refine (d2_graph (Q := on D d2 n k2 A2 [] 1 none) HO.out HO.out.on_k HO.out.on_o H20.out).mono ?_
          rintro e w21 ⟨gv1, rfl, hgr, hz, -⟩
          have H21 : Hid (DW (on D d1 n k1 A2 [] 1 none) (on D d2 n k2 A2 [] 1 none) w V w21 ∧ D.gr w21 gv1 n A2) := ⟨hz, hgr⟩
          clear hz hgr H20
          go_wp2_with fail
          refine (d2_edges (Q := on D d2 n k2 A2 [] 1 none) HO.out HO.out.on_k HO.out.on_o H21.out.1 H21.out.2).mono ?_
          rintro e w22 ⟨ea1, ec1, Y22, rfl, -, -, hz, hap, -, -⟩
          have H22 : Hid (DW (on D d2 n k2 A2 [] 1 none) (on D d1 n k1 A2 [] 1 none) w Y22 w22 ∧ EdgesAt w22 ea1 A2) := ⟨hz.swap, hap.edges⟩
          clear hz hap H21
          go_wp2_with fail
          refine (d2_graph (Q := on D d1 n k1 A2 [] 1 none) HO.out HO.out.on_k HO.out.on_o H22.out.1).mono ?_
          rintro e w23 ⟨gv2, rfl, hgr, hz, hb⟩
          have H23 : Hid (DW (on D d2 n k2 A2 [] 1 none) (on D d1 n k1 A2 [] 1 none) w Y22 w23 ∧ D.gr w23 gv2 n A2 ∧ EdgesAt w23 ea1 A2) := ⟨hz, hgr, H22.out.2.below hb⟩
          clear hz hgr hb H22
          go_wp2_with fail
          refine (d2_edges (Q := on D d1 n k1 A2 [] 1 none) HO.out HO.out.on_k HO.out.on_o H23.out.1 H23.out.2.1).mono ?_
          rintro e w24 ⟨ea2, ec2, Y24, rfl, -, -, hz, hap, -, hb⟩
          have H24 : Hid (DW (on D d1 n k1 A2 [] 1 none) (on D d2 n k2 A2 [] 1 none) w Y24 w24 ∧ EdgesAt w24 ea1 A2 ∧ EdgesAt w24 ea2 A2) := ⟨hz.swap, H23.out.2.2.below hb, hap.edges⟩
          clear hz hap hb H23
          go_wp2_with fail
          refine (edges_same rfl H24.out.2.1 H24.out.2.2 (by have := HFA.out.1.len; omega)).mono ?_
          rintro e w25 ⟨rfl, hb⟩
          have H25 : Hid (DW (on D d1 n k1 A2 [] 1 none) (on D d2 n k2 A2 [] 1 none) w Y24 w25) := DW.step (P := on D d1 n k1 A2 [] 1 none) (Q := on D d2 n k2 A2 [] 1 none) HO.out.on_k HO.out.on_o HO.out.on_k HO.out.on_o H24.out.1 hb
          clear hb H24
          go_wp2_with fail
          refine (d2_graph (Q := on D d2 n k2 A2 [] 1 none) HO.out HO.out.on_k HO.out.on_o H25.out).mono ?_
          rintro e w26 ⟨gv3, rfl, hgr, hz, -⟩
          have H26 : Hid (DW (on D d1 n k1 A2 [] 1 none) (on D d2 n k2 A2 [] 1 none) w Y24 w26 ∧ D.gr w26 gv3 n A2) := ⟨hz, hgr⟩
          clear hz hgr H25
          go_wp2_with fail
          refine (d2_edges (Q := on D d2 n k2 A2 [] 1 none) HO.out HO.out.on_k HO.out.on_o H26.out.1 H26.out.2).mono ?_
          rintro e w27 ⟨wa, wc, Y27, rfl, -, -, hz, hap, -, -⟩
          have H27 : Hid (DW (on D d1 n k1 A2 [] 1 none) (on D d2 n k2 A2 [] 1 none) w Y27 w27 ∧ Ap w w27 Y27 wa A2) := ⟨hz, hap⟩
          clear hz hap H26
          go_wp2_with fail
          refine (d2_do (Q := on D d2 n k2 A2 [] 1 none) HO.out HO.out.on_k HO.out.on_o H27.out.1 (HE.out.2.1.below H27.out.1.below) HE.out.2.2.1 HE.out.2.2.2 (fun q => ev_apart HE.out.2.1 q)).mono ?_
          rintro e w28 ⟨v3, x3, A3, out3, oa3, oc3, rfl, her3, hd3, -, -, -, ⟨V3, hz, -, -⟩, hs, -⟩
          have H28 : Hid (DW (on D d1 n k1 A3 [] 1 none) (on D d2 n k2 A2 [] 1 none) w V3 w28 ∧ EdgesAt w28 wa A2) := ⟨hz, (H27.out.2.same H27.out.1.below hz.below hs).edges⟩
          clear hz hs H27
          by_cases hx3 : x3 = 0
          · obtain rfl := Dk.Er.nil (by rwa [hx3] at her3)
            have HB : Hid (Below w.heap.size w w28) := H28.out.1.below
            clear hd3 her3 hx3 H28
            go_wp2_with fail
            go_ret
            exact ⟨rfl, HB.out⟩
          · obtain rfl := Dk.Er.some her3 hx3
            obtain rfl : A3 = A2 := does_back hd3 hx3
            clear hd3 her3 hx3
            go_wp2_with fail
            refine (d2_graph (Q := on D d2 n k2 _ [] 1 none) HO.out HO.out.on_k HO.out.on_o H28.out.1).mono ?_
            rintro e w29 ⟨gv4, rfl, hgr, hz, hb⟩
            have H29 : Hid (_ ∧ D.gr w29 gv4 n _ ∧ EdgesAt w29 wa _) := ⟨hz, hgr, H28.out.2.below hb⟩
            clear hz hgr hb H28
            go_wp2_with fail
            refine (d2_edges (Q := on D d2 n k2 _ [] 1 none) HO.out HO.out.on_k HO.out.on_o H29.out.1 H29.out.2.1).mono ?_
            rintro e w30 ⟨ea5, ec5, Y30, rfl, -, -, hz, hap, -, hb⟩
            have H30 : Hid (Below w.heap.size w w30 ∧ EdgesAt w30 ea5 _ ∧ EdgesAt w30 wa _) := ⟨hz.below, hap.edges, H29.out.2.2.below hb⟩
            clear hz hap hb H29
            go_wp2_with fail
            refine (edges_same rfl H30.out.2.1 H30.out.2.2 (by have := HFA.out.1.len; omega)).mono ?_
            rintro e w31 ⟨rfl, hb⟩
            have HB : Hid (Below w.heap.size w w31) := Br.below_step H30.out.1 hb
            clear hb H30
            go_wp2_with fail
            go_ret
            exact ⟨rfl, HB.out⟩
      · by_cases hm : 120 < m1
        · have i2 : (120 : Int) < (m1 : Int) := by omega
          obtain rfl := Dk.Er.some HD1.out.1 hx
          have hA : A2 = [] := does_back HD1.out.2 hx
          have HA0 : Hid (A2.length = 0) := show _ = _ by rw [hA]; rfl
          clear hA hx
          go_wp2_with fail
          refine (d2_graph (Q := on D d2 n k2 B [] 1 none) HO.out HO.out.on_k HO.out.on_o HW.out.1).mono ?_
          rintro e w20 ⟨gv, rfl, hgr, hz20, hb20⟩
          have H20 : Hid (DW (on D d1 n k1 A2 [] 1 none) (on D d2 n k2 B [] 1 none) w V w20 ∧ D.gr w20 gv n A2) := ⟨hz20, hgr⟩
          clear hgr hz20 hb20
          go_wp2_with fail
          refine (d2_edges (Q := on D d2 n k2 B [] 1 none) HO.out HO.out.on_k HO.out.on_o H20.out.1 H20.out.2).mono ?_
          rintro e w21 ⟨ea, ec, Y21, he, -, -, hz21, -, -, -⟩
          rw [HA0.out] at he
          subst he
          have HB21 : Hid (Below w.heap.size w w21) := hz21.below
          clear hz21 H20
          go_wp2_with fail
          go_ret
          exact ⟨rfl, HB21.out⟩
        · have i2 : ¬ (120 : Int) < (m1 : Int) := by omega
          cases dn with
          | true =>
            exfalso
            have hall := HYN.out.1 (by first | exact rfl | exact trivial)
            rw [hjm] at hall
            exact hx (HD1.out.2.one (done_does hall (by omega)) List.Pairwise.nil).1
          | false =>
            obtain rfl := Dk.Er.some HD1.out.1 hx
            have hA : A2 = [] := does_back HD1.out.2 hx
            have HA0 : Hid (A2.length = 0) := show _ = _ by rw [hA]; rfl
            clear hA hx
            go_wp2_with fail
            refine (d2_graph (Q := on D d2 n k2 B [] 1 none) HO.out HO.out.on_k HO.out.on_o HW.out.1).mono ?_
            rintro e w20 ⟨gv, rfl, hgr, hz20, hb20⟩
            have H20 : Hid (DW (on D d1 n k1 A2 [] 1 none) (on D d2 n k2 B [] 1 none) w V w20 ∧ D.gr w20 gv n A2) := ⟨hz20, hgr⟩
            clear hgr hz20 hb20
            go_wp2_with fail
            refine (d2_edges (Q := on D d2 n k2 B [] 1 none) HO.out HO.out.on_k HO.out.on_o H20.out.1 H20.out.2).mono ?_
            rintro e w21 ⟨ea, ec, Y21, he, -, -, hz21, -, -, -⟩
            rw [HA0.out] at he
            subst he
            have HB21 : Hid (Below w.heap.size w w21) := hz21.below
            clear hz21 H20
            go_wp2_with fail
            go_ret
            exact ⟨rfl, HB21.out⟩

theorem desk_whole (O : DeskOk D) (h0 : ErrType w) (he1 : EvAt w a1 m1 f1) (hm1 : m1 ≤ c1) (hc1 : c1 ≤ maxLen) (he2 : EvAt w a2 m2 f2) (hm2 : m2 ≤ c2) (hc2 : c2 ≤ maxLen) (p : Int) :
    Calls Tryz.prog 5 #[.int .i64 p, .slice a1 m1 c1, .slice a2 m2 c2] w fun e w' => e = .returned (.bool true) ∧ Below w.heap.size w w' := by
  by_cases hp : p < 1 ∨ 60 < p
  · exact dwhole_bad O p hp
  · obtain ⟨n, rfl⟩ := Int.eq_ofNat_of_zero_le (show 0 ≤ p by omega)
    exact dwhole_ok O h0 he1 hm1 hc1 he2 hm2 hc2 (by omega) (by omega)

end Go.Proofs.YtcfemppdeidjmacGreatDoor.Ds
