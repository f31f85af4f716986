/-
  TopAsked returns true, whatever packages desk, disk and asks that answer as they are to.
-/
import Derived.Test.YtcfemppdeidjmacGreatYp
import Derived.Test.YtcfemppdeidjmacGreatF20
import Derived.Test.YtcfemppdeidjmacGreatYr
import Derived.Test.YtcfemppdeidjmacGreatOp
import Derived.Test.YtcfemppdeidjmacGreatXo
namespace Go.Proofs.YtcfemppdeidjmacGreat.Ds
open Go.RowKit Go.Deep Go.Proofs.YtcfemppdeidjmacGreat.Br
open Go.Proofs.YtcfemppdeidjmacGreat.Dk (EvAt NumAt Er Same)
open Go.Proofs.YtcfemppdeidjmacGreat.Sk (SW Apart Keeps Owns)
open Go.Proofs.YtcfemppdeidjmacGreat.As (AnsOk Ans BoolsAt Valid)
open Go.RowKit (Below)
set_option linter.unusedVariables false

variable {w w' wr : World} {D : DFace} {n : Nat} {a1 a2 : Option Addr} {m1 c1 m2 c2 : Nat} {f1 : Nat → Ev} {f2 : Nat → Int}

set_option maxRecDepth 100000 in
set_option maxHeartbeats 4000000 in
theorem asked_no (H1 : To.OneOk) (H : AnsOk) (he : EvAt w a1 m1 f1) (hfit : As.Fits f1 m1) (p : Int) (hv : ¬ Valid p m1 f1) :
    Calls Tryz.prog 6 #[.int .i64 p, .slice a1 m1 c1, .slice a2 m2 c2] w fun e w' => e = .returned (.bool true) ∧ Below w.heap.size w w' := by
  have HE : Hid (EvAt w a1 m1 f1 ∧ As.Fits f1 m1 ∧ ¬ Valid p m1 f1) := ⟨he, hfit, hv⟩
  have HA : Hid AnsOk := H
  clear he hfit hv H
  go_enter Tryz.func6, Tryz.ntmps6
  go_wp2_with fail
  refine (H1 (w := w)).mono ?_
  rintro e w1 ⟨rfl, hb⟩
  have HB1 : Hid (Below w.heap.size w w1) := hb
  clear hb H1
  go_wp2_with fail
  refine (HA.out.no p (HE.out.1.below HB1.out) HE.out.2.1 HE.out.2.2).mono ?_
  rintro e w2 ⟨v, t, y, rfl, hb⟩
  have HB2 : Hid (Below w.heap.size w w2) := Dk.below_step HB1.out hb
  clear hb
  go_wp2_with fail
  go_ret
  exact ⟨rfl, HB2.out⟩

set_option maxRecDepth 100000 in
set_option maxHeartbeats 64000000 in
theorem asked_ok (H1 : To.OneOk) (O : DeskOk D) (H : AnsOk) (he : EvAt w a1 m1 f1) (hm1 : m1 ≤ c1) (hc1 : c1 ≤ maxLen) (hv : Valid (n : Int) m1 f1) (hk : NumAt w a2 m2 f2) :
    Calls Tryz.prog 6 #[.int .i64 (n : Nat), .slice a1 m1 c1, .slice a2 m2 c2] w fun e w' => e = .returned (.bool true) ∧ Below w.heap.size w w' := by
  have hvv : ∀ j, j < m1 → As.May n f1 j := by
    have := hv.2.2
    rwa [Int.toNat_natCast] at this
  have HV : Hid (Valid (n : Int) m1 f1 ∧ m1 ≤ 120 ∧ (∀ j, j < m1 → As.May n f1 j)) := ⟨hv, hv.2.1, hvv⟩
  have HN : Hid (1 ≤ n ∧ n ≤ 60) := show _ ∧ _ by have := hv.1; omega
  have HE : Hid (EvAt w a1 m1 f1 ∧ m1 ≤ c1 ∧ c1 ≤ maxLen ∧ NumAt w a2 m2 f2) := ⟨he, hm1, hc1, hk⟩
  have HO : Hid (DeskOk D) := O
  have HA : Hid AnsOk := H
  clear he hm1 hc1 hv hvv hk O H
  go_enter Tryz.func6, Tryz.ntmps6
  go_wp2_with fail
  refine (H1 (w := w)).mono ?_
  rintro e w1 ⟨rfl, hb⟩
  have HB1 : Hid (Below w.heap.size w w1) := hb
  clear hb H1
  go_wp2_with fail
  refine (HA.out.ok (n : Int) (HE.out.1.below HB1.out) HV.out.1).mono ?_
  rintro e w2 ⟨wv, l, rfl, hans, hown, hb⟩
  obtain ⟨wa, wc, rfl, hwa, -, -⟩ := As.own_bools (n := l.length) hown rfl
  have HW : Hid (Ans f1 m1 l ∧ BoolsAt w2 wa l.length l) := ⟨hans, hwa⟩
  have HB2 : Hid (Below w.heap.size w w2) := Dk.below_step HB1.out hb
  have HE2 : Hid (EvAt w2 a1 m1 f1 ∧ NumAt w2 a2 m2 f2) := ⟨HE.out.1.below HB2.out, HE.out.2.2.2.below HB2.out⟩
  obtain ⟨N, hN⟩ : ∃ N, l.length = N := ⟨_, rfl⟩
  rw [hN]
  clear hb hans hown hwa HB1
  go_wp2_with fail
  refine (dw_new HO.out (Below.refl _ w2)).mono ?_
  rintro e w3 ⟨d, rfl, hz, -⟩
  have HZ3 : Hid (SW (raw D d) w2 w2.heap.size (fun _ => False) w3) := hz
  clear hz
  go_wp2_with fail
  refine (dw_format HO.out HZ3.out HN.out.1 HN.out.2).mono ?_
  rintro e w4 ⟨rfl, hz, -⟩
  have HZ4 : Hid (SW (kept D d n [] 1) w2 w2.heap.size (fun _ => False) w4) := hz
  clear hz HZ3
  go_wp2_with fail
  refine (dw_open HO.out HZ4.out (by decide)).mono ?_
  rintro e w5 ⟨k0, rfl, hz, -⟩
  have HZ5 : Hid (SW (on D d n k0 [] [] 1 none) w2 w2.heap.size (fun _ => False) w5) := hz
  clear hz HZ4
  go_wp2_with fail
  go_loopw [12, 13, 14, 15] (fun vk vo vp vi wr => ∃ (j p : Nat) (A : List (Nat × Nat)) (o : List Bool) (M : Nat) (V : Nat → Prop), j ≤ 20 ∧ vi = .int .i64 (j : Nat) ∧ p ≤ m1 ∧ vp = .int .i64 (p : Nat) ∧ SW (on D d n vk A A (j + 1) none) w2 w2.heap.size V wr ∧ wr.ownsRow w2.heap.size 4 1 vo M (As.bools o) ∧ o.length = M ∧ (∀ k, vo.ownBlock = some k → V k) ∧ All n (evl f1 p) [] 0 A o) (fun _ _ _ i _ => 20 - (intOf i).toNat)
  case atStart => exact ⟨0, 0, [], [], 0, fun _ => False, Nat.zero_le _, rfl, Nat.zero_le _, rfl, HZ5.out, World.ownsRow_nil .., rfl, fun k e => (by cases e), ⟨rfl, rfl, rfl⟩⟩
  case round =>
    clear HZ5
    obtain ⟨j, p, A, o, M, V, hj, rfl, hp, rfl, hsw, hown, hM, hoV, hall⟩ := hrel
    have HJ : Hid (j ≤ 20 ∧ p ≤ m1 ∧ o.length = M ∧ M ≤ p) := ⟨hj, hp, hM, by rw [← hM]; exact all_len HV.out.2.1 HV.out.2.2 hp hall⟩
    have HS : Hid (SW (on D d n u12 A A (j + 1) none) w2 w2.heap.size V wr ∧ wr.ownsRow w2.heap.size 4 1 u13 M (As.bools o) ∧ (∀ k, u13.ownBlock = some k → V k)) := ⟨hsw, hown, hoV⟩
    have HL : Hid (All n (evl f1 p) [] 0 A o) := hall
    clear hj hp hM hsw hown hoV hall
    by_cases h0 : j ≤ m2
    · have i0 : (j : Int) ≤ (m2 : Int) := by omega
      by_cases h1 : j < 20
      · have i1 : (j : Int) < 20 := by omega
        have HJ2 : Hid (j < 20) := h1
        by_cases h2 : j < m2
        · have i2 : (j : Int) < (m2 : Int) := by omega
          obtain ⟨cb, co, rfl, hc⟩ := HE2.out.2 j h2
          obtain ⟨x, hx⟩ : ∃ x, f2 j = x := ⟨_, rfl⟩
          rw [hx] at hc
          have hcr := Dk.cell_keep HS.out.1.below hc
          have ij : (0 : Int) ≤ (j : Int) := by omega
          clear hc hx h0 h1 h2
          by_cases h3 : (p : Int) ≤ x
          · by_cases h4 : x < (m1 : Int)
            · obtain ⟨q, rfl⟩ := Int.eq_ofNat_of_zero_le (show 0 ≤ x by omega)
              have HQ : Hid (p ≤ q ∧ q ≤ m1) := show _ ∧ _ by omega
              have k0 : (0 : Int) ≤ (p : Int) := by omega
              have k1 : (p : Int) ≤ (q : Int) := by have := HQ.out; omega
              have k2 : (q : Int) ≤ (c1 : Int) := by have := HQ.out; have := HE.out.2.1; omega
              have j5 : IntKind.i64.wrap ((j : Int) + 1) = (j : Int) + 1 := by rw [IntKind.wrap_i64]; have := HJ2.out; omega
              have hev : EvAt w2 (Option.map (fun x => x.add (p * 3)) a1) (q - p) (fun k => f1 (p + k)) := ev_cut HE2.out.1 HQ.out.2
              have HEv : Hid (EvAt w2 (Option.map (fun x => x.add (p * 3)) a1) (q - p) (fun k => f1 (p + k)) ∧ q - p ≤ c1 - p ∧ c1 - p ≤ maxLen ∧ (0 < q - p → Apart w2 V (Option.map (fun x => x.add (p * 3)) a1))) := ⟨hev, by have := HQ.out; have := HE.out.2.1; omega, by have := HE.out.2.2.1; omega, fun z => ev_apart' hev z⟩
              clear hev
              as_aux_lemma =>
                go_wp2_with fail
                · obtain rfl : c1 = p := by assumption
                  refine (dw_do (a := a1) (m := q - c1) (c := 0) (f := fun k => f1 (c1 + k)) HO.out HS.out.1 (fun i hi => absurd hi (by have := HQ.out; have := HE.out.2.1; omega)) (by have := HQ.out; have := HE.out.2.1; omega) (Nat.zero_le _) (fun q => absurd q (by have := HQ.out; have := HE.out.2.1; omega))).mono ?_
                  rintro e w6 ⟨v, x', A', o', oz, ocz, rfl, her, hd, hbl, -, -, hz, hs⟩
                  obtain ⟨rfl, hall⟩ := piece_does HV.out.2.1 HV.out.2.2 HQ.out.1 HQ.out.2 HL.out hd
                  obtain rfl := Dk.Er.nil her
                  have HL2 : Hid (All n (evl f1 q) [] 0 A' (o ++ o') ∧ (o ++ o').length ≤ 120) := ⟨hall, Nat.le_trans (all_len HV.out.2.1 HV.out.2.2 HQ.out.2 hall) (Nat.le_trans HQ.out.2 HV.out.2.1)⟩
                  have H6 : Hid (SW (on D d n u12 A' A (j + 1) none) w2 w2.heap.size V w6 ∧ w6.ownsRow w2.heap.size 4 1 u13 M (As.bools o) ∧ (∀ k, u13.ownBlock = some k → V k) ∧ BlAt w6 oz o') := ⟨hz, own_block HS.out.2.1 fun k hk => hs k (HS.out.2.2 k hk), HS.out.2.2, hbl⟩
                  obtain ⟨L, hL⟩ : ∃ L, o'.length = L := ⟨_, rfl⟩
                  have HLL : Hid (o'.length = L ∧ M + L ≤ 120) := ⟨hL, by have h1 := HL2.out.2; rw [List.length_append, HJ.out.2.2.1, hL] at h1; exact h1⟩
                  rw [hL]
                  clear her hd hz hs hall HS hL hbl
                  go_wp2_with (first
                    | (at_builtin; refine wpList_append_bl rfl (.tmp 96) (.tmp 97) rfl w2.heap.size u13 M o o' rfl H6.out.2.1 oz L ocz rfl HLL.out.1 H6.out.2.2.2 (by have := HLL.out; omega) H6.out.1.below.size ?_))
                  intro v9 w9 hown9 hgrow hb9
                  have hz9 := sw_grown (P := on D d n u12 A' A (j + 1) none) HO.out.on_k HO.out.on_o H6.out.1 hgrow fun k e => ⟨H6.out.2.2.1 k e, (H6.out.2.1.lt k e).1⟩
                  obtain ⟨V9, hV9⟩ : ∃ V9 : Nat → Prop, (fun b => V b ∨ (w6.heap.size ≤ b ∧ b < w9.heap.size)) = V9 := ⟨_, rfl⟩
                  have hb10 : ∀ k, v9.ownBlock = some k → V9 k := fun k e => by
                    rw [← hV9]
                    exact (hb9 k e).imp (H6.out.2.2.1 k) id
                  rw [hV9] at hz9
                  have H9 : Hid (SW (on D d n u12 A' A (j + 1) none) w2 w2.heap.size V9 w9 ∧ w9.ownsRow w2.heap.size 4 1 v9 (M + L) (As.bools (o ++ o')) ∧ (∀ k, v9.ownBlock = some k → V9 k) ∧ (o ++ o').length = M + L) := ⟨hz9, hown9, hb10, by rw [List.length_append, HJ.out.2.2.1, HLL.out.1]⟩
                  clear hown9 hgrow hb9 hz9 hb10 hV9 H6
                  go_wp2_with fail
                  refine (dw_save HO.out H9.out.1 (by have := HJ2.out; omega)).mono ?_
                  rintro e w10 ⟨hor, hs⟩
                  replace hor := hor.resolve_right fun q => q.2.1 rfl
                  obtain ⟨g', rfl, hz, hg⟩ := hor
                  obtain rfl := hg rfl
                  have H10 : Hid (SW (on D d n u12 A' A' (j + 1 + 1) none) w2 w2.heap.size V9 w10 ∧ w10.ownsRow w2.heap.size 4 1 v9 (M + L) (As.bools (o ++ o'))) := ⟨hz, own_block H9.out.2.1 fun k hk => hs k (H9.out.2.2.1 k hk)⟩
                  clear hz hg hs
                  go_wp2_with fail
                  refine (dw_crash (a := none) (m := 0) (c := 0) (f := fun _ => 0) HO.out H10.out.1 (fun i hi => absurd hi (Nat.not_lt_zero i)) (Nat.le_refl 0) (Nat.zero_le _) (fun q => absurd q (by decide))).mono ?_
                  rintro e w11 ⟨rfl, hz, hs⟩
                  have H11 : Hid (SW (kept D d n A' (j + 1 + 1)) w2 w2.heap.size V9 w11 ∧ w11.ownsRow w2.heap.size 4 1 v9 (M + L) (As.bools (o ++ o'))) := ⟨hz, own_block H10.out.2 fun k hk => hs k (H9.out.2.2.1 k hk)⟩
                  clear hz hs H10
                  go_wp2_with fail
                  refine (dw_open HO.out H11.out.1 (by have := HJ2.out; omega)).mono ?_
                  rintro e w12 ⟨k', rfl, hz, hs⟩
                  have H12 : Hid (SW (on D d n k' A' A' (j + 1 + 1) none) w2 w2.heap.size V9 w12 ∧ w12.ownsRow w2.heap.size 4 1 v9 (M + L) (As.bools (o ++ o'))) := ⟨hz, own_block H11.out.2 fun k hk => hs k (H9.out.2.2.1 k hk)⟩
                  clear hz hs H11
                  go_wp2_with fail
                  go_roundw
                  case rel => exact ⟨j + 1, q, A', _, _, V9, by have := HJ2.out; omega, by go_num, HQ.out.2, rfl, H12.out.1, H12.out.2, H9.out.2.2.2, H9.out.2.2.1, HL2.out.1⟩
                  case measure => simp [intOf]; have := HJ2.out; omega
                · refine (dw_do HO.out HS.out.1 (HEv.out.1.below HS.out.1.below) HEv.out.2.1 HEv.out.2.2.1 HEv.out.2.2.2).mono ?_
                  rintro e w6 ⟨v, x', A', o', oz, ocz, rfl, her, hd, hbl, -, -, hz, hs⟩
                  obtain ⟨rfl, hall⟩ := piece_does HV.out.2.1 HV.out.2.2 HQ.out.1 HQ.out.2 HL.out hd
                  obtain rfl := Dk.Er.nil her
                  have HL2 : Hid (All n (evl f1 q) [] 0 A' (o ++ o') ∧ (o ++ o').length ≤ 120) := ⟨hall, Nat.le_trans (all_len HV.out.2.1 HV.out.2.2 HQ.out.2 hall) (Nat.le_trans HQ.out.2 HV.out.2.1)⟩
                  have H6 : Hid (SW (on D d n u12 A' A (j + 1) none) w2 w2.heap.size V w6 ∧ w6.ownsRow w2.heap.size 4 1 u13 M (As.bools o) ∧ (∀ k, u13.ownBlock = some k → V k) ∧ BlAt w6 oz o') := ⟨hz, own_block HS.out.2.1 fun k hk => hs k (HS.out.2.2 k hk), HS.out.2.2, hbl⟩
                  obtain ⟨L, hL⟩ : ∃ L, o'.length = L := ⟨_, rfl⟩
                  have HLL : Hid (o'.length = L ∧ M + L ≤ 120) := ⟨hL, by have h1 := HL2.out.2; rw [List.length_append, HJ.out.2.2.1, hL] at h1; exact h1⟩
                  rw [hL]
                  clear her hd hz hs hall HS hL hbl
                  go_wp2_with (first
                    | (at_builtin; refine wpList_append_bl rfl (.tmp 96) (.tmp 97) rfl w2.heap.size u13 M o o' rfl H6.out.2.1 oz L ocz rfl HLL.out.1 H6.out.2.2.2 (by have := HLL.out; omega) H6.out.1.below.size ?_))
                  intro v9 w9 hown9 hgrow hb9
                  have hz9 := sw_grown (P := on D d n u12 A' A (j + 1) none) HO.out.on_k HO.out.on_o H6.out.1 hgrow fun k e => ⟨H6.out.2.2.1 k e, (H6.out.2.1.lt k e).1⟩
                  obtain ⟨V9, hV9⟩ : ∃ V9 : Nat → Prop, (fun b => V b ∨ (w6.heap.size ≤ b ∧ b < w9.heap.size)) = V9 := ⟨_, rfl⟩
                  have hb10 : ∀ k, v9.ownBlock = some k → V9 k := fun k e => by
                    rw [← hV9]
                    exact (hb9 k e).imp (H6.out.2.2.1 k) id
                  rw [hV9] at hz9
                  have H9 : Hid (SW (on D d n u12 A' A (j + 1) none) w2 w2.heap.size V9 w9 ∧ w9.ownsRow w2.heap.size 4 1 v9 (M + L) (As.bools (o ++ o')) ∧ (∀ k, v9.ownBlock = some k → V9 k) ∧ (o ++ o').length = M + L) := ⟨hz9, hown9, hb10, by rw [List.length_append, HJ.out.2.2.1, HLL.out.1]⟩
                  clear hown9 hgrow hb9 hz9 hb10 hV9 H6
                  go_wp2_with fail
                  refine (dw_save HO.out H9.out.1 (by have := HJ2.out; omega)).mono ?_
                  rintro e w10 ⟨hor, hs⟩
                  replace hor := hor.resolve_right fun q => q.2.1 rfl
                  obtain ⟨g', rfl, hz, hg⟩ := hor
                  obtain rfl := hg rfl
                  have H10 : Hid (SW (on D d n u12 A' A' (j + 1 + 1) none) w2 w2.heap.size V9 w10 ∧ w10.ownsRow w2.heap.size 4 1 v9 (M + L) (As.bools (o ++ o'))) := ⟨hz, own_block H9.out.2.1 fun k hk => hs k (H9.out.2.2.1 k hk)⟩
                  clear hz hg hs
                  go_wp2_with fail
                  refine (dw_crash (a := none) (m := 0) (c := 0) (f := fun _ => 0) HO.out H10.out.1 (fun i hi => absurd hi (Nat.not_lt_zero i)) (Nat.le_refl 0) (Nat.zero_le _) (fun q => absurd q (by decide))).mono ?_
                  rintro e w11 ⟨rfl, hz, hs⟩
                  have H11 : Hid (SW (kept D d n A' (j + 1 + 1)) w2 w2.heap.size V9 w11 ∧ w11.ownsRow w2.heap.size 4 1 v9 (M + L) (As.bools (o ++ o'))) := ⟨hz, own_block H10.out.2 fun k hk => hs k (H9.out.2.2.1 k hk)⟩
                  clear hz hs H10
                  go_wp2_with fail
                  refine (dw_open HO.out H11.out.1 (by have := HJ2.out; omega)).mono ?_
                  rintro e w12 ⟨k', rfl, hz, hs⟩
                  have H12 : Hid (SW (on D d n k' A' A' (j + 1 + 1) none) w2 w2.heap.size V9 w12 ∧ w12.ownsRow w2.heap.size 4 1 v9 (M + L) (As.bools (o ++ o'))) := ⟨hz, own_block H11.out.2 fun k hk => hs k (H9.out.2.2.1 k hk)⟩
                  clear hz hs H11
                  go_wp2_with fail
                  go_roundw
                  case rel => exact ⟨j + 1, q, A', _, _, V9, by have := HJ2.out; omega, by go_num, HQ.out.2, rfl, H12.out.1, H12.out.2, H9.out.2.2.2, H9.out.2.2.1, HL2.out.1⟩
                  case measure => simp [intOf]; have := HJ2.out; omega
            · have h5 : (m1 : Int) ≤ x := by omega
              have HQ : Hid (p ≤ m1 ∧ m1 ≤ m1) := ⟨HJ.out.2.1, Nat.le_refl _⟩
              have k0 : (0 : Int) ≤ (p : Int) := by omega
              have k1 : (p : Int) ≤ (m1 : Int) := by have := HQ.out; omega
              have k2 : (m1 : Int) ≤ (c1 : Int) := by have := HQ.out; have := HE.out.2.1; omega
              have j5 : IntKind.i64.wrap ((j : Int) + 1) = (j : Int) + 1 := by rw [IntKind.wrap_i64]; have := HJ2.out; omega
              have hev : EvAt w2 (Option.map (fun x => x.add (p * 3)) a1) (m1 - p) (fun k => f1 (p + k)) := ev_cut HE2.out.1 HQ.out.2
              have HEv : Hid (EvAt w2 (Option.map (fun x => x.add (p * 3)) a1) (m1 - p) (fun k => f1 (p + k)) ∧ m1 - p ≤ c1 - p ∧ c1 - p ≤ maxLen ∧ (0 < m1 - p → Apart w2 V (Option.map (fun x => x.add (p * 3)) a1))) := ⟨hev, by have := HQ.out; have := HE.out.2.1; omega, by have := HE.out.2.2.1; omega, fun z => ev_apart' hev z⟩
              clear hev
              as_aux_lemma =>
                go_wp2_with fail
                · obtain rfl : c1 = p := by assumption
                  refine (dw_do (a := a1) (m := m1 - c1) (c := 0) (f := fun k => f1 (c1 + k)) HO.out HS.out.1 (fun i hi => absurd hi (by have := HQ.out; have := HE.out.2.1; omega)) (by have := HQ.out; have := HE.out.2.1; omega) (Nat.zero_le _) (fun q => absurd q (by have := HQ.out; have := HE.out.2.1; omega))).mono ?_
                  rintro e w6 ⟨v, x', A', o', oz, ocz, rfl, her, hd, hbl, -, -, hz, hs⟩
                  obtain ⟨rfl, hall⟩ := piece_does HV.out.2.1 HV.out.2.2 HQ.out.1 HQ.out.2 HL.out hd
                  obtain rfl := Dk.Er.nil her
                  have HL2 : Hid (All n (evl f1 m1) [] 0 A' (o ++ o') ∧ (o ++ o').length ≤ 120) := ⟨hall, Nat.le_trans (all_len HV.out.2.1 HV.out.2.2 HQ.out.2 hall) (Nat.le_trans HQ.out.2 HV.out.2.1)⟩
                  have H6 : Hid (SW (on D d n u12 A' A (j + 1) none) w2 w2.heap.size V w6 ∧ w6.ownsRow w2.heap.size 4 1 u13 M (As.bools o) ∧ (∀ k, u13.ownBlock = some k → V k) ∧ BlAt w6 oz o') := ⟨hz, own_block HS.out.2.1 fun k hk => hs k (HS.out.2.2 k hk), HS.out.2.2, hbl⟩
                  obtain ⟨L, hL⟩ : ∃ L, o'.length = L := ⟨_, rfl⟩
                  have HLL : Hid (o'.length = L ∧ M + L ≤ 120) := ⟨hL, by have h1 := HL2.out.2; rw [List.length_append, HJ.out.2.2.1, hL] at h1; exact h1⟩
                  rw [hL]
                  clear her hd hz hs hall HS hL hbl
                  go_wp2_with (first
                    | (at_builtin; refine wpList_append_bl rfl (.tmp 96) (.tmp 97) rfl w2.heap.size u13 M o o' rfl H6.out.2.1 oz L ocz rfl HLL.out.1 H6.out.2.2.2 (by have := HLL.out; omega) H6.out.1.below.size ?_))
                  intro v9 w9 hown9 hgrow hb9
                  have hz9 := sw_grown (P := on D d n u12 A' A (j + 1) none) HO.out.on_k HO.out.on_o H6.out.1 hgrow fun k e => ⟨H6.out.2.2.1 k e, (H6.out.2.1.lt k e).1⟩
                  obtain ⟨V9, hV9⟩ : ∃ V9 : Nat → Prop, (fun b => V b ∨ (w6.heap.size ≤ b ∧ b < w9.heap.size)) = V9 := ⟨_, rfl⟩
                  have hb10 : ∀ k, v9.ownBlock = some k → V9 k := fun k e => by
                    rw [← hV9]
                    exact (hb9 k e).imp (H6.out.2.2.1 k) id
                  rw [hV9] at hz9
                  have H9 : Hid (SW (on D d n u12 A' A (j + 1) none) w2 w2.heap.size V9 w9 ∧ w9.ownsRow w2.heap.size 4 1 v9 (M + L) (As.bools (o ++ o')) ∧ (∀ k, v9.ownBlock = some k → V9 k) ∧ (o ++ o').length = M + L) := ⟨hz9, hown9, hb10, by rw [List.length_append, HJ.out.2.2.1, HLL.out.1]⟩
                  clear hown9 hgrow hb9 hz9 hb10 hV9 H6
                  go_wp2_with fail
                  refine (dw_save HO.out H9.out.1 (by have := HJ2.out; omega)).mono ?_
                  rintro e w10 ⟨hor, hs⟩
                  replace hor := hor.resolve_right fun q => q.2.1 rfl
                  obtain ⟨g', rfl, hz, hg⟩ := hor
                  obtain rfl := hg rfl
                  have H10 : Hid (SW (on D d n u12 A' A' (j + 1 + 1) none) w2 w2.heap.size V9 w10 ∧ w10.ownsRow w2.heap.size 4 1 v9 (M + L) (As.bools (o ++ o'))) := ⟨hz, own_block H9.out.2.1 fun k hk => hs k (H9.out.2.2.1 k hk)⟩
                  clear hz hg hs
                  go_wp2_with fail
                  refine (dw_crash (a := none) (m := 0) (c := 0) (f := fun _ => 0) HO.out H10.out.1 (fun i hi => absurd hi (Nat.not_lt_zero i)) (Nat.le_refl 0) (Nat.zero_le _) (fun q => absurd q (by decide))).mono ?_
                  rintro e w11 ⟨rfl, hz, hs⟩
                  have H11 : Hid (SW (kept D d n A' (j + 1 + 1)) w2 w2.heap.size V9 w11 ∧ w11.ownsRow w2.heap.size 4 1 v9 (M + L) (As.bools (o ++ o'))) := ⟨hz, own_block H10.out.2 fun k hk => hs k (H9.out.2.2.1 k hk)⟩
                  clear hz hs H10
                  go_wp2_with fail
                  refine (dw_open HO.out H11.out.1 (by have := HJ2.out; omega)).mono ?_
                  rintro e w12 ⟨k', rfl, hz, hs⟩
                  have H12 : Hid (SW (on D d n k' A' A' (j + 1 + 1) none) w2 w2.heap.size V9 w12 ∧ w12.ownsRow w2.heap.size 4 1 v9 (M + L) (As.bools (o ++ o'))) := ⟨hz, own_block H11.out.2 fun k hk => hs k (H9.out.2.2.1 k hk)⟩
                  clear hz hs H11
                  go_wp2_with fail
                  go_roundw
                  case rel => exact ⟨j + 1, m1, A', _, _, V9, by have := HJ2.out; omega, by go_num, HQ.out.2, rfl, H12.out.1, H12.out.2, H9.out.2.2.2, H9.out.2.2.1, HL2.out.1⟩
                  case measure => simp [intOf]; have := HJ2.out; omega
                · refine (dw_do HO.out HS.out.1 (HEv.out.1.below HS.out.1.below) HEv.out.2.1 HEv.out.2.2.1 HEv.out.2.2.2).mono ?_
                  rintro e w6 ⟨v, x', A', o', oz, ocz, rfl, her, hd, hbl, -, -, hz, hs⟩
                  obtain ⟨rfl, hall⟩ := piece_does HV.out.2.1 HV.out.2.2 HQ.out.1 HQ.out.2 HL.out hd
                  obtain rfl := Dk.Er.nil her
                  have HL2 : Hid (All n (evl f1 m1) [] 0 A' (o ++ o') ∧ (o ++ o').length ≤ 120) := ⟨hall, Nat.le_trans (all_len HV.out.2.1 HV.out.2.2 HQ.out.2 hall) (Nat.le_trans HQ.out.2 HV.out.2.1)⟩
                  have H6 : Hid (SW (on D d n u12 A' A (j + 1) none) w2 w2.heap.size V w6 ∧ w6.ownsRow w2.heap.size 4 1 u13 M (As.bools o) ∧ (∀ k, u13.ownBlock = some k → V k) ∧ BlAt w6 oz o') := ⟨hz, own_block HS.out.2.1 fun k hk => hs k (HS.out.2.2 k hk), HS.out.2.2, hbl⟩
                  obtain ⟨L, hL⟩ : ∃ L, o'.length = L := ⟨_, rfl⟩
                  have HLL : Hid (o'.length = L ∧ M + L ≤ 120) := ⟨hL, by have h1 := HL2.out.2; rw [List.length_append, HJ.out.2.2.1, hL] at h1; exact h1⟩
                  rw [hL]
                  clear her hd hz hs hall HS hL hbl
                  go_wp2_with (first
                    | (at_builtin; refine wpList_append_bl rfl (.tmp 96) (.tmp 97) rfl w2.heap.size u13 M o o' rfl H6.out.2.1 oz L ocz rfl HLL.out.1 H6.out.2.2.2 (by have := HLL.out; omega) H6.out.1.below.size ?_))
                  intro v9 w9 hown9 hgrow hb9
                  have hz9 := sw_grown (P := on D d n u12 A' A (j + 1) none) HO.out.on_k HO.out.on_o H6.out.1 hgrow fun k e => ⟨H6.out.2.2.1 k e, (H6.out.2.1.lt k e).1⟩
                  obtain ⟨V9, hV9⟩ : ∃ V9 : Nat → Prop, (fun b => V b ∨ (w6.heap.size ≤ b ∧ b < w9.heap.size)) = V9 := ⟨_, rfl⟩
                  have hb10 : ∀ k, v9.ownBlock = some k → V9 k := fun k e => by
                    rw [← hV9]
                    exact (hb9 k e).imp (H6.out.2.2.1 k) id
                  rw [hV9] at hz9
                  have H9 : Hid (SW (on D d n u12 A' A (j + 1) none) w2 w2.heap.size V9 w9 ∧ w9.ownsRow w2.heap.size 4 1 v9 (M + L) (As.bools (o ++ o')) ∧ (∀ k, v9.ownBlock = some k → V9 k) ∧ (o ++ o').length = M + L) := ⟨hz9, hown9, hb10, by rw [List.length_append, HJ.out.2.2.1, HLL.out.1]⟩
                  clear hown9 hgrow hb9 hz9 hb10 hV9 H6
                  go_wp2_with fail
                  refine (dw_save HO.out H9.out.1 (by have := HJ2.out; omega)).mono ?_
                  rintro e w10 ⟨hor, hs⟩
                  replace hor := hor.resolve_right fun q => q.2.1 rfl
                  obtain ⟨g', rfl, hz, hg⟩ := hor
                  obtain rfl := hg rfl
                  have H10 : Hid (SW (on D d n u12 A' A' (j + 1 + 1) none) w2 w2.heap.size V9 w10 ∧ w10.ownsRow w2.heap.size 4 1 v9 (M + L) (As.bools (o ++ o'))) := ⟨hz, own_block H9.out.2.1 fun k hk => hs k (H9.out.2.2.1 k hk)⟩
                  clear hz hg hs
                  go_wp2_with fail
                  refine (dw_crash (a := none) (m := 0) (c := 0) (f := fun _ => 0) HO.out H10.out.1 (fun i hi => absurd hi (Nat.not_lt_zero i)) (Nat.le_refl 0) (Nat.zero_le _) (fun q => absurd q (by decide))).mono ?_
                  rintro e w11 ⟨rfl, hz, hs⟩
                  have H11 : Hid (SW (kept D d n A' (j + 1 + 1)) w2 w2.heap.size V9 w11 ∧ w11.ownsRow w2.heap.size 4 1 v9 (M + L) (As.bools (o ++ o'))) := ⟨hz, own_block H10.out.2 fun k hk => hs k (H9.out.2.2.1 k hk)⟩
                  clear hz hs H10
                  go_wp2_with fail
                  refine (dw_open HO.out H11.out.1 (by have := HJ2.out; omega)).mono ?_
                  rintro e w12 ⟨k', rfl, hz, hs⟩
                  have H12 : Hid (SW (on D d n k' A' A' (j + 1 + 1) none) w2 w2.heap.size V9 w12 ∧ w12.ownsRow w2.heap.size 4 1 v9 (M + L) (As.bools (o ++ o'))) := ⟨hz, own_block H11.out.2 fun k hk => hs k (H9.out.2.2.1 k hk)⟩
                  clear hz hs H11
                  go_wp2_with fail
                  go_roundw
                  case rel => exact ⟨j + 1, m1, A', _, _, V9, by have := HJ2.out; omega, by go_num, HQ.out.2, rfl, H12.out.1, H12.out.2, H9.out.2.2.2, H9.out.2.2.1, HL2.out.1⟩
                  case measure => simp [intOf]; have := HJ2.out; omega
          · have h5 : x < (p : Int) := by omega
            have HQ : Hid (p ≤ m1 ∧ m1 ≤ m1) := ⟨HJ.out.2.1, Nat.le_refl _⟩
            have k0 : (0 : Int) ≤ (p : Int) := by omega
            have k1 : (p : Int) ≤ (m1 : Int) := by have := HQ.out; omega
            have k2 : (m1 : Int) ≤ (c1 : Int) := by have := HQ.out; have := HE.out.2.1; omega
            have j5 : IntKind.i64.wrap ((j : Int) + 1) = (j : Int) + 1 := by rw [IntKind.wrap_i64]; have := HJ2.out; omega
            have hev : EvAt w2 (Option.map (fun x => x.add (p * 3)) a1) (m1 - p) (fun k => f1 (p + k)) := ev_cut HE2.out.1 HQ.out.2
            have HEv : Hid (EvAt w2 (Option.map (fun x => x.add (p * 3)) a1) (m1 - p) (fun k => f1 (p + k)) ∧ m1 - p ≤ c1 - p ∧ c1 - p ≤ maxLen ∧ (0 < m1 - p → Apart w2 V (Option.map (fun x => x.add (p * 3)) a1))) := ⟨hev, by have := HQ.out; have := HE.out.2.1; omega, by have := HE.out.2.2.1; omega, fun z => ev_apart' hev z⟩
            clear hev
            as_aux_lemma =>
              go_wp2_with fail
              · obtain rfl : c1 = p := by assumption
                refine (dw_do (a := a1) (m := m1 - c1) (c := 0) (f := fun k => f1 (c1 + k)) HO.out HS.out.1 (fun i hi => absurd hi (by have := HQ.out; have := HE.out.2.1; omega)) (by have := HQ.out; have := HE.out.2.1; omega) (Nat.zero_le _) (fun q => absurd q (by have := HQ.out; have := HE.out.2.1; omega))).mono ?_
                rintro e w6 ⟨v, x', A', o', oz, ocz, rfl, her, hd, hbl, -, -, hz, hs⟩
                obtain ⟨rfl, hall⟩ := piece_does HV.out.2.1 HV.out.2.2 HQ.out.1 HQ.out.2 HL.out hd
                obtain rfl := Dk.Er.nil her
                have HL2 : Hid (All n (evl f1 m1) [] 0 A' (o ++ o') ∧ (o ++ o').length ≤ 120) := ⟨hall, Nat.le_trans (all_len HV.out.2.1 HV.out.2.2 HQ.out.2 hall) (Nat.le_trans HQ.out.2 HV.out.2.1)⟩
                have H6 : Hid (SW (on D d n u12 A' A (j + 1) none) w2 w2.heap.size V w6 ∧ w6.ownsRow w2.heap.size 4 1 u13 M (As.bools o) ∧ (∀ k, u13.ownBlock = some k → V k) ∧ BlAt w6 oz o') := ⟨hz, own_block HS.out.2.1 fun k hk => hs k (HS.out.2.2 k hk), HS.out.2.2, hbl⟩
                obtain ⟨L, hL⟩ : ∃ L, o'.length = L := ⟨_, rfl⟩
                have HLL : Hid (o'.length = L ∧ M + L ≤ 120) := ⟨hL, by have h1 := HL2.out.2; rw [List.length_append, HJ.out.2.2.1, hL] at h1; exact h1⟩
                rw [hL]
                clear her hd hz hs hall HS hL hbl
                go_wp2_with (first
                  | (at_builtin; refine wpList_append_bl rfl (.tmp 96) (.tmp 97) rfl w2.heap.size u13 M o o' rfl H6.out.2.1 oz L ocz rfl HLL.out.1 H6.out.2.2.2 (by have := HLL.out; omega) H6.out.1.below.size ?_))
                intro v9 w9 hown9 hgrow hb9
                have hz9 := sw_grown (P := on D d n u12 A' A (j + 1) none) HO.out.on_k HO.out.on_o H6.out.1 hgrow fun k e => ⟨H6.out.2.2.1 k e, (H6.out.2.1.lt k e).1⟩
                obtain ⟨V9, hV9⟩ : ∃ V9 : Nat → Prop, (fun b => V b ∨ (w6.heap.size ≤ b ∧ b < w9.heap.size)) = V9 := ⟨_, rfl⟩
                have hb10 : ∀ k, v9.ownBlock = some k → V9 k := fun k e => by
                  rw [← hV9]
                  exact (hb9 k e).imp (H6.out.2.2.1 k) id
                rw [hV9] at hz9
                have H9 : Hid (SW (on D d n u12 A' A (j + 1) none) w2 w2.heap.size V9 w9 ∧ w9.ownsRow w2.heap.size 4 1 v9 (M + L) (As.bools (o ++ o')) ∧ (∀ k, v9.ownBlock = some k → V9 k) ∧ (o ++ o').length = M + L) := ⟨hz9, hown9, hb10, by rw [List.length_append, HJ.out.2.2.1, HLL.out.1]⟩
                clear hown9 hgrow hb9 hz9 hb10 hV9 H6
                go_wp2_with fail
                refine (dw_save HO.out H9.out.1 (by have := HJ2.out; omega)).mono ?_
                rintro e w10 ⟨hor, hs⟩
                replace hor := hor.resolve_right fun q => q.2.1 rfl
                obtain ⟨g', rfl, hz, hg⟩ := hor
                obtain rfl := hg rfl
                have H10 : Hid (SW (on D d n u12 A' A' (j + 1 + 1) none) w2 w2.heap.size V9 w10 ∧ w10.ownsRow w2.heap.size 4 1 v9 (M + L) (As.bools (o ++ o'))) := ⟨hz, own_block H9.out.2.1 fun k hk => hs k (H9.out.2.2.1 k hk)⟩
                clear hz hg hs
                go_wp2_with fail
                refine (dw_crash (a := none) (m := 0) (c := 0) (f := fun _ => 0) HO.out H10.out.1 (fun i hi => absurd hi (Nat.not_lt_zero i)) (Nat.le_refl 0) (Nat.zero_le _) (fun q => absurd q (by decide))).mono ?_
                rintro e w11 ⟨rfl, hz, hs⟩
                have H11 : Hid (SW (kept D d n A' (j + 1 + 1)) w2 w2.heap.size V9 w11 ∧ w11.ownsRow w2.heap.size 4 1 v9 (M + L) (As.bools (o ++ o'))) := ⟨hz, own_block H10.out.2 fun k hk => hs k (H9.out.2.2.1 k hk)⟩
                clear hz hs H10
                go_wp2_with fail
                refine (dw_open HO.out H11.out.1 (by have := HJ2.out; omega)).mono ?_
                rintro e w12 ⟨k', rfl, hz, hs⟩
                have H12 : Hid (SW (on D d n k' A' A' (j + 1 + 1) none) w2 w2.heap.size V9 w12 ∧ w12.ownsRow w2.heap.size 4 1 v9 (M + L) (As.bools (o ++ o'))) := ⟨hz, own_block H11.out.2 fun k hk => hs k (H9.out.2.2.1 k hk)⟩
                clear hz hs H11
                go_wp2_with fail
                go_roundw
                case rel => exact ⟨j + 1, m1, A', _, _, V9, by have := HJ2.out; omega, by go_num, HQ.out.2, rfl, H12.out.1, H12.out.2, H9.out.2.2.2, H9.out.2.2.1, HL2.out.1⟩
                case measure => simp [intOf]; have := HJ2.out; omega
              · refine (dw_do HO.out HS.out.1 (HEv.out.1.below HS.out.1.below) HEv.out.2.1 HEv.out.2.2.1 HEv.out.2.2.2).mono ?_
                rintro e w6 ⟨v, x', A', o', oz, ocz, rfl, her, hd, hbl, -, -, hz, hs⟩
                obtain ⟨rfl, hall⟩ := piece_does HV.out.2.1 HV.out.2.2 HQ.out.1 HQ.out.2 HL.out hd
                obtain rfl := Dk.Er.nil her
                have HL2 : Hid (All n (evl f1 m1) [] 0 A' (o ++ o') ∧ (o ++ o').length ≤ 120) := ⟨hall, Nat.le_trans (all_len HV.out.2.1 HV.out.2.2 HQ.out.2 hall) (Nat.le_trans HQ.out.2 HV.out.2.1)⟩
                have H6 : Hid (SW (on D d n u12 A' A (j + 1) none) w2 w2.heap.size V w6 ∧ w6.ownsRow w2.heap.size 4 1 u13 M (As.bools o) ∧ (∀ k, u13.ownBlock = some k → V k) ∧ BlAt w6 oz o') := ⟨hz, own_block HS.out.2.1 fun k hk => hs k (HS.out.2.2 k hk), HS.out.2.2, hbl⟩
                obtain ⟨L, hL⟩ : ∃ L, o'.length = L := ⟨_, rfl⟩
                have HLL : Hid (o'.length = L ∧ M + L ≤ 120) := ⟨hL, by have h1 := HL2.out.2; rw [List.length_append, HJ.out.2.2.1, hL] at h1; exact h1⟩
                rw [hL]
                clear her hd hz hs hall HS hL hbl
                go_wp2_with (first
                  | (at_builtin; refine wpList_append_bl rfl (.tmp 96) (.tmp 97) rfl w2.heap.size u13 M o o' rfl H6.out.2.1 oz L ocz rfl HLL.out.1 H6.out.2.2.2 (by have := HLL.out; omega) H6.out.1.below.size ?_))
                intro v9 w9 hown9 hgrow hb9
                have hz9 := sw_grown (P := on D d n u12 A' A (j + 1) none) HO.out.on_k HO.out.on_o H6.out.1 hgrow fun k e => ⟨H6.out.2.2.1 k e, (H6.out.2.1.lt k e).1⟩
                obtain ⟨V9, hV9⟩ : ∃ V9 : Nat → Prop, (fun b => V b ∨ (w6.heap.size ≤ b ∧ b < w9.heap.size)) = V9 := ⟨_, rfl⟩
                have hb10 : ∀ k, v9.ownBlock = some k → V9 k := fun k e => by
                  rw [← hV9]
                  exact (hb9 k e).imp (H6.out.2.2.1 k) id
                rw [hV9] at hz9
                have H9 : Hid (SW (on D d n u12 A' A (j + 1) none) w2 w2.heap.size V9 w9 ∧ w9.ownsRow w2.heap.size 4 1 v9 (M + L) (As.bools (o ++ o')) ∧ (∀ k, v9.ownBlock = some k → V9 k) ∧ (o ++ o').length = M + L) := ⟨hz9, hown9, hb10, by rw [List.length_append, HJ.out.2.2.1, HLL.out.1]⟩
                clear hown9 hgrow hb9 hz9 hb10 hV9 H6
                go_wp2_with fail
                refine (dw_save HO.out H9.out.1 (by have := HJ2.out; omega)).mono ?_
                rintro e w10 ⟨hor, hs⟩
                replace hor := hor.resolve_right fun q => q.2.1 rfl
                obtain ⟨g', rfl, hz, hg⟩ := hor
                obtain rfl := hg rfl
                have H10 : Hid (SW (on D d n u12 A' A' (j + 1 + 1) none) w2 w2.heap.size V9 w10 ∧ w10.ownsRow w2.heap.size 4 1 v9 (M + L) (As.bools (o ++ o'))) := ⟨hz, own_block H9.out.2.1 fun k hk => hs k (H9.out.2.2.1 k hk)⟩
                clear hz hg hs
                go_wp2_with fail
                refine (dw_crash (a := none) (m := 0) (c := 0) (f := fun _ => 0) HO.out H10.out.1 (fun i hi => absurd hi (Nat.not_lt_zero i)) (Nat.le_refl 0) (Nat.zero_le _) (fun q => absurd q (by decide))).mono ?_
                rintro e w11 ⟨rfl, hz, hs⟩
                have H11 : Hid (SW (kept D d n A' (j + 1 + 1)) w2 w2.heap.size V9 w11 ∧ w11.ownsRow w2.heap.size 4 1 v9 (M + L) (As.bools (o ++ o'))) := ⟨hz, own_block H10.out.2 fun k hk => hs k (H9.out.2.2.1 k hk)⟩
                clear hz hs H10
                go_wp2_with fail
                refine (dw_open HO.out H11.out.1 (by have := HJ2.out; omega)).mono ?_
                rintro e w12 ⟨k', rfl, hz, hs⟩
                have H12 : Hid (SW (on D d n k' A' A' (j + 1 + 1) none) w2 w2.heap.size V9 w12 ∧ w12.ownsRow w2.heap.size 4 1 v9 (M + L) (As.bools (o ++ o'))) := ⟨hz, own_block H11.out.2 fun k hk => hs k (H9.out.2.2.1 k hk)⟩
                clear hz hs H11
                go_wp2_with fail
                go_roundw
                case rel => exact ⟨j + 1, m1, A', _, _, V9, by have := HJ2.out; omega, by go_num, HQ.out.2, rfl, H12.out.1, H12.out.2, H9.out.2.2.2, H9.out.2.2.1, HL2.out.1⟩
                case measure => simp [intOf]; have := HJ2.out; omega
        · have i2 : ¬ (j : Int) < (m2 : Int) := by omega
          have HQ : Hid (p ≤ m1 ∧ m1 ≤ m1) := ⟨HJ.out.2.1, Nat.le_refl _⟩
          clear h0 h1 h2
          have k0 : (0 : Int) ≤ (p : Int) := by omega
          have k1 : (p : Int) ≤ (m1 : Int) := by have := HQ.out; omega
          have k2 : (m1 : Int) ≤ (c1 : Int) := by have := HQ.out; have := HE.out.2.1; omega
          have j5 : IntKind.i64.wrap ((j : Int) + 1) = (j : Int) + 1 := by rw [IntKind.wrap_i64]; have := HJ2.out; omega
          have hev : EvAt w2 (Option.map (fun x => x.add (p * 3)) a1) (m1 - p) (fun k => f1 (p + k)) := ev_cut HE2.out.1 HQ.out.2
          have HEv : Hid (EvAt w2 (Option.map (fun x => x.add (p * 3)) a1) (m1 - p) (fun k => f1 (p + k)) ∧ m1 - p ≤ c1 - p ∧ c1 - p ≤ maxLen ∧ (0 < m1 - p → Apart w2 V (Option.map (fun x => x.add (p * 3)) a1))) := ⟨hev, by have := HQ.out; have := HE.out.2.1; omega, by have := HE.out.2.2.1; omega, fun z => ev_apart' hev z⟩
          clear hev
          as_aux_lemma =>
            go_wp2_with fail
            · obtain rfl : c1 = p := by assumption
              refine (dw_do (a := a1) (m := m1 - c1) (c := 0) (f := fun k => f1 (c1 + k)) HO.out HS.out.1 (fun i hi => absurd hi (by have := HQ.out; have := HE.out.2.1; omega)) (by have := HQ.out; have := HE.out.2.1; omega) (Nat.zero_le _) (fun q => absurd q (by have := HQ.out; have := HE.out.2.1; omega))).mono ?_
              rintro e w6 ⟨v, x', A', o', oz, ocz, rfl, her, hd, hbl, -, -, hz, hs⟩
              obtain ⟨rfl, hall⟩ := piece_does HV.out.2.1 HV.out.2.2 HQ.out.1 HQ.out.2 HL.out hd
              obtain rfl := Dk.Er.nil her
              have HL2 : Hid (All n (evl f1 m1) [] 0 A' (o ++ o') ∧ (o ++ o').length ≤ 120) := ⟨hall, Nat.le_trans (all_len HV.out.2.1 HV.out.2.2 HQ.out.2 hall) (Nat.le_trans HQ.out.2 HV.out.2.1)⟩
              have H6 : Hid (SW (on D d n u12 A' A (j + 1) none) w2 w2.heap.size V w6 ∧ w6.ownsRow w2.heap.size 4 1 u13 M (As.bools o) ∧ (∀ k, u13.ownBlock = some k → V k) ∧ BlAt w6 oz o') := ⟨hz, own_block HS.out.2.1 fun k hk => hs k (HS.out.2.2 k hk), HS.out.2.2, hbl⟩
              obtain ⟨L, hL⟩ : ∃ L, o'.length = L := ⟨_, rfl⟩
              have HLL : Hid (o'.length = L ∧ M + L ≤ 120) := ⟨hL, by have h1 := HL2.out.2; rw [List.length_append, HJ.out.2.2.1, hL] at h1; exact h1⟩
              rw [hL]
              clear her hd hz hs hall HS hL hbl
              go_wp2_with (first
                | (at_builtin; refine wpList_append_bl rfl (.tmp 96) (.tmp 97) rfl w2.heap.size u13 M o o' rfl H6.out.2.1 oz L ocz rfl HLL.out.1 H6.out.2.2.2 (by have := HLL.out; omega) H6.out.1.below.size ?_))
              intro v9 w9 hown9 hgrow hb9
              have hz9 := sw_grown (P := on D d n u12 A' A (j + 1) none) HO.out.on_k HO.out.on_o H6.out.1 hgrow fun k e => ⟨H6.out.2.2.1 k e, (H6.out.2.1.lt k e).1⟩
              obtain ⟨V9, hV9⟩ : ∃ V9 : Nat → Prop, (fun b => V b ∨ (w6.heap.size ≤ b ∧ b < w9.heap.size)) = V9 := ⟨_, rfl⟩
              have hb10 : ∀ k, v9.ownBlock = some k → V9 k := fun k e => by
                rw [← hV9]
                exact (hb9 k e).imp (H6.out.2.2.1 k) id
              rw [hV9] at hz9
              have H9 : Hid (SW (on D d n u12 A' A (j + 1) none) w2 w2.heap.size V9 w9 ∧ w9.ownsRow w2.heap.size 4 1 v9 (M + L) (As.bools (o ++ o')) ∧ (∀ k, v9.ownBlock = some k → V9 k) ∧ (o ++ o').length = M + L) := ⟨hz9, hown9, hb10, by rw [List.length_append, HJ.out.2.2.1, HLL.out.1]⟩
              clear hown9 hgrow hb9 hz9 hb10 hV9 H6
              go_wp2_with fail
              refine (dw_save HO.out H9.out.1 (by have := HJ2.out; omega)).mono ?_
              rintro e w10 ⟨hor, hs⟩
              replace hor := hor.resolve_right fun q => q.2.1 rfl
              obtain ⟨g', rfl, hz, hg⟩ := hor
              obtain rfl := hg rfl
              have H10 : Hid (SW (on D d n u12 A' A' (j + 1 + 1) none) w2 w2.heap.size V9 w10 ∧ w10.ownsRow w2.heap.size 4 1 v9 (M + L) (As.bools (o ++ o'))) := ⟨hz, own_block H9.out.2.1 fun k hk => hs k (H9.out.2.2.1 k hk)⟩
              clear hz hg hs
              go_wp2_with fail
              refine (dw_crash (a := none) (m := 0) (c := 0) (f := fun _ => 0) HO.out H10.out.1 (fun i hi => absurd hi (Nat.not_lt_zero i)) (Nat.le_refl 0) (Nat.zero_le _) (fun q => absurd q (by decide))).mono ?_
              rintro e w11 ⟨rfl, hz, hs⟩
              have H11 : Hid (SW (kept D d n A' (j + 1 + 1)) w2 w2.heap.size V9 w11 ∧ w11.ownsRow w2.heap.size 4 1 v9 (M + L) (As.bools (o ++ o'))) := ⟨hz, own_block H10.out.2 fun k hk => hs k (H9.out.2.2.1 k hk)⟩
              clear hz hs H10
              go_wp2_with fail
              refine (dw_open HO.out H11.out.1 (by have := HJ2.out; omega)).mono ?_
              rintro e w12 ⟨k', rfl, hz, hs⟩
              have H12 : Hid (SW (on D d n k' A' A' (j + 1 + 1) none) w2 w2.heap.size V9 w12 ∧ w12.ownsRow w2.heap.size 4 1 v9 (M + L) (As.bools (o ++ o'))) := ⟨hz, own_block H11.out.2 fun k hk => hs k (H9.out.2.2.1 k hk)⟩
              clear hz hs H11
              go_wp2_with fail
              go_roundw
              case rel => exact ⟨j + 1, m1, A', _, _, V9, by have := HJ2.out; omega, by go_num, HQ.out.2, rfl, H12.out.1, H12.out.2, H9.out.2.2.2, H9.out.2.2.1, HL2.out.1⟩
              case measure => simp [intOf]; have := HJ2.out; omega
            · refine (dw_do HO.out HS.out.1 (HEv.out.1.below HS.out.1.below) HEv.out.2.1 HEv.out.2.2.1 HEv.out.2.2.2).mono ?_
              rintro e w6 ⟨v, x', A', o', oz, ocz, rfl, her, hd, hbl, -, -, hz, hs⟩
              obtain ⟨rfl, hall⟩ := piece_does HV.out.2.1 HV.out.2.2 HQ.out.1 HQ.out.2 HL.out hd
              obtain rfl := Dk.Er.nil her
              have HL2 : Hid (All n (evl f1 m1) [] 0 A' (o ++ o') ∧ (o ++ o').length ≤ 120) := ⟨hall, Nat.le_trans (all_len HV.out.2.1 HV.out.2.2 HQ.out.2 hall) (Nat.le_trans HQ.out.2 HV.out.2.1)⟩
              have H6 : Hid (SW (on D d n u12 A' A (j + 1) none) w2 w2.heap.size V w6 ∧ w6.ownsRow w2.heap.size 4 1 u13 M (As.bools o) ∧ (∀ k, u13.ownBlock = some k → V k) ∧ BlAt w6 oz o') := ⟨hz, own_block HS.out.2.1 fun k hk => hs k (HS.out.2.2 k hk), HS.out.2.2, hbl⟩
              obtain ⟨L, hL⟩ : ∃ L, o'.length = L := ⟨_, rfl⟩
              have HLL : Hid (o'.length = L ∧ M + L ≤ 120) := ⟨hL, by have h1 := HL2.out.2; rw [List.length_append, HJ.out.2.2.1, hL] at h1; exact h1⟩
              rw [hL]
              clear her hd hz hs hall HS hL hbl
              go_wp2_with (first
                | (at_builtin; refine wpList_append_bl rfl (.tmp 96) (.tmp 97) rfl w2.heap.size u13 M o o' rfl H6.out.2.1 oz L ocz rfl HLL.out.1 H6.out.2.2.2 (by have := HLL.out; omega) H6.out.1.below.size ?_))
              intro v9 w9 hown9 hgrow hb9
              have hz9 := sw_grown (P := on D d n u12 A' A (j + 1) none) HO.out.on_k HO.out.on_o H6.out.1 hgrow fun k e => ⟨H6.out.2.2.1 k e, (H6.out.2.1.lt k e).1⟩
              obtain ⟨V9, hV9⟩ : ∃ V9 : Nat → Prop, (fun b => V b ∨ (w6.heap.size ≤ b ∧ b < w9.heap.size)) = V9 := ⟨_, rfl⟩
              have hb10 : ∀ k, v9.ownBlock = some k → V9 k := fun k e => by
                rw [← hV9]
                exact (hb9 k e).imp (H6.out.2.2.1 k) id
              rw [hV9] at hz9
              have H9 : Hid (SW (on D d n u12 A' A (j + 1) none) w2 w2.heap.size V9 w9 ∧ w9.ownsRow w2.heap.size 4 1 v9 (M + L) (As.bools (o ++ o')) ∧ (∀ k, v9.ownBlock = some k → V9 k) ∧ (o ++ o').length = M + L) := ⟨hz9, hown9, hb10, by rw [List.length_append, HJ.out.2.2.1, HLL.out.1]⟩
              clear hown9 hgrow hb9 hz9 hb10 hV9 H6
              go_wp2_with fail
              refine (dw_save HO.out H9.out.1 (by have := HJ2.out; omega)).mono ?_
              rintro e w10 ⟨hor, hs⟩
              replace hor := hor.resolve_right fun q => q.2.1 rfl
              obtain ⟨g', rfl, hz, hg⟩ := hor
              obtain rfl := hg rfl
              have H10 : Hid (SW (on D d n u12 A' A' (j + 1 + 1) none) w2 w2.heap.size V9 w10 ∧ w10.ownsRow w2.heap.size 4 1 v9 (M + L) (As.bools (o ++ o'))) := ⟨hz, own_block H9.out.2.1 fun k hk => hs k (H9.out.2.2.1 k hk)⟩
              clear hz hg hs
              go_wp2_with fail
              refine (dw_crash (a := none) (m := 0) (c := 0) (f := fun _ => 0) HO.out H10.out.1 (fun i hi => absurd hi (Nat.not_lt_zero i)) (Nat.le_refl 0) (Nat.zero_le _) (fun q => absurd q (by decide))).mono ?_
              rintro e w11 ⟨rfl, hz, hs⟩
              have H11 : Hid (SW (kept D d n A' (j + 1 + 1)) w2 w2.heap.size V9 w11 ∧ w11.ownsRow w2.heap.size 4 1 v9 (M + L) (As.bools (o ++ o'))) := ⟨hz, own_block H10.out.2 fun k hk => hs k (H9.out.2.2.1 k hk)⟩
              clear hz hs H10
              go_wp2_with fail
              refine (dw_open HO.out H11.out.1 (by have := HJ2.out; omega)).mono ?_
              rintro e w12 ⟨k', rfl, hz, hs⟩
              have H12 : Hid (SW (on D d n k' A' A' (j + 1 + 1) none) w2 w2.heap.size V9 w12 ∧ w12.ownsRow w2.heap.size 4 1 v9 (M + L) (As.bools (o ++ o'))) := ⟨hz, own_block H11.out.2 fun k hk => hs k (H9.out.2.2.1 k hk)⟩
              clear hz hs H11
              go_wp2_with fail
              go_roundw
              case rel => exact ⟨j + 1, m1, A', _, _, V9, by have := HJ2.out; omega, by go_num, HQ.out.2, rfl, H12.out.1, H12.out.2, H9.out.2.2.2, H9.out.2.2.1, HL2.out.1⟩
              case measure => simp [intOf]; have := HJ2.out; omega
      · have i1 : ¬ (j : Int) < 20 := by omega
        clear h0 h1
        by_cases hpm : p < m1
        · have i5 : (p : Int) < (m1 : Int) := by omega
          go_wp2_with fail
          go_ret
          exact ⟨rfl, Br.below_step HB2.out HS.out.1.below⟩
        · have i5 : ¬ (p : Int) < (m1 : Int) := by omega
          obtain rfl : p = m1 := by have := HJ.out; omega
          have hol := all_ans HV.out.2.1 HV.out.2.2 HL.out HW.out.1
          obtain ⟨oa, oc, rfl, hob, -, -⟩ := As.own_bools HS.out.2.1 HJ.out.2.2.1
          obtain rfl : N = M := by rw [← hN, ← HJ.out.2.2.1, hol]
          have HX : Hid (BoolsAt wr oa N l ∧ BoolsAt wr wa N l ∧ N < 1000000) := ⟨by rw [← hol]; exact hob, by have := HW.out.2; rw [hN] at this; exact this.below HS.out.1.below, by have := HJ.out; have := HV.out.2.1; omega⟩
          clear hpm hol hob
          go_wp2_with fail
          refine (As.bools_same HX.out.1 HX.out.2.1 HX.out.2.2).mono ?_
          rintro e w9 ⟨rfl, hb⟩
          have HB9 : Hid (Below w.heap.size w w9) := Br.below_step (Br.below_step HB2.out HS.out.1.below) hb
          clear hb
          go_wp2_with fail
          go_ret
          exact ⟨rfl, HB9.out⟩
    · have i0 : ¬ (j : Int) ≤ (m2 : Int) := by omega
      clear h0
      by_cases hpm : p < m1
      · have i5 : (p : Int) < (m1 : Int) := by omega
        go_wp2_with fail
        go_ret
        exact ⟨rfl, Br.below_step HB2.out HS.out.1.below⟩
      · have i5 : ¬ (p : Int) < (m1 : Int) := by omega
        obtain rfl : p = m1 := by have := HJ.out; omega
        have hol := all_ans HV.out.2.1 HV.out.2.2 HL.out HW.out.1
        obtain ⟨oa, oc, rfl, hob, -, -⟩ := As.own_bools HS.out.2.1 HJ.out.2.2.1
        obtain rfl : N = M := by rw [← hN, ← HJ.out.2.2.1, hol]
        have HX : Hid (BoolsAt wr oa N l ∧ BoolsAt wr wa N l ∧ N < 1000000) := ⟨by rw [← hol]; exact hob, by have := HW.out.2; rw [hN] at this; exact this.below HS.out.1.below, by have := HJ.out; have := HV.out.2.1; omega⟩
        clear hpm hol hob
        go_wp2_with fail
        refine (As.bools_same HX.out.1 HX.out.2.1 HX.out.2.2).mono ?_
        rintro e w9 ⟨rfl, hb⟩
        have HB9 : Hid (Below w.heap.size w w9) := Br.below_step (Br.below_step HB2.out HS.out.1.below) hb
        clear hb
        go_wp2_with fail
        go_ret
        exact ⟨rfl, HB9.out⟩

theorem top_asked (H1 : To.OneOk) (O : DeskOk D) (H : AnsOk) (he : EvAt w a1 m1 f1) (hfit : As.Fits f1 m1) (hm1 : m1 ≤ c1) (hc1 : c1 ≤ maxLen) (hk : NumAt w a2 m2 f2) (p : Int) :
    Calls Tryz.prog 6 #[.int .i64 p, .slice a1 m1 c1, .slice a2 m2 c2] w fun e w' => e = .returned (.bool true) ∧ Below w.heap.size w w' := by
  by_cases hv : Valid p m1 f1
  · obtain ⟨n, rfl⟩ := Int.eq_ofNat_of_zero_le (show 0 ≤ p by have := hv.1; omega)
    exact asked_ok H1 O H he hm1 hc1 hv hk
  · exact asked_no H1 H he hfit p hv

end Go.Proofs.YtcfemppdeidjmacGreat.Ds
