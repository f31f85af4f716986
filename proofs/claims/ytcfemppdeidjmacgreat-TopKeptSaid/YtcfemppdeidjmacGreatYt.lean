/-
  TopKept returns true, whatever packages desk, disk, graph and note that answer as they are to.
-/
import Derived.Test.YtcfemppdeidjmacGreatYs
import Derived.Test.YtcfemppdeidjmacGreatXo
namespace Go.Proofs.YtcfemppdeidjmacGreat.Ds
open Go.RowKit Go.Deep Go.Proofs.YtcfemppdeidjmacGreat.Br
open Go.Proofs.YtcfemppdeidjmacGreat.Dk (EvAt NumAt Er Same)
open Go.Proofs.YtcfemppdeidjmacGreat.Sk (SW Apart Keeps Owns)
open Go.RowKit (Below)
set_option linter.unusedVariables false

variable {w w' wr : World} {D : DFace} {n : Nat} {a1 a2 : Option Addr} {m1 c1 m2 c2 : Nat} {f1 : Nat → Ev} {f2 : Nat → Int} {a b : Int}

set_option maxRecDepth 100000 in
set_option maxHeartbeats 4000000 in
theorem kept_no (H1 : To.OneOk) (K : KeptOk D) (p : Int) (hp : p < 1 ∨ 60 < p) :
    Calls Tryz.prog 7 #[.int .i64 p, .slice a1 m1 c1, .slice a2 m2 c2, .int .i64 a, .int .i64 b] w fun e w' => e = .returned (.bool true) ∧ Below w.heap.size w w' := by
  have HP : Hid (p < 1 ∨ 60 < p) := hp
  have HK : Hid (KeptOk D) := K
  clear hp K
  go_enter Tryz.func7, Tryz.ntmps7
  go_wp2_with fail
  refine (H1 (w := w)).mono ?_
  rintro e w1 ⟨rfl, hb⟩
  have HB1 : Hid (Below w.heap.size w w1) := hb
  clear hb H1
  go_wp2_with fail
  refine (HK.out.drawn_no p HP.out).mono ?_
  rintro e w2 ⟨rfl, hb⟩
  have HB2 : Hid (Below w.heap.size w w2) := Dk.below_step HB1.out hb
  clear hb
  go_wp2_with fail
  go_ret
  exact ⟨rfl, HB2.out⟩

set_option maxRecDepth 100000 in
set_option maxHeartbeats 16000000 in
theorem kept_ok (H1 : To.OneOk) (O : DeskOk D) (K : KeptOk D) (he : EvAt w a1 m1 f1) (n1 : 1 ≤ n) (n60 : n ≤ 60) (hk : NumAt w a2 m2 f2) (hm2 : m2 ≤ c2) (hc2 : c2 ≤ maxLen) :
    Calls Tryz.prog 7 #[.int .i64 (n : Nat), .slice a1 m1 c1, .slice a2 m2 c2, .int .i64 a, .int .i64 b] w fun e w' => e = .returned (.bool true) ∧ Below w.heap.size w w' := by
  have HN : Hid (1 ≤ n ∧ n ≤ 60 ∧ m2 ≤ c2 ∧ c2 ≤ maxLen) := ⟨n1, n60, hm2, hc2⟩
  have HE : Hid (EvAt w a1 m1 f1 ∧ NumAt w a2 m2 f2) := ⟨he, hk⟩
  have HO : Hid (DeskOk D) := O
  have HK : Hid (KeptOk D) := K
  clear he n1 n60 hk hm2 hc2 O K
  go_enter Tryz.func7, Tryz.ntmps7
  go_wp2_with fail
  refine (H1 (w := w)).mono ?_
  rintro e w1 ⟨rfl, hb⟩
  have HB1 : Hid (Below w.heap.size w w1) := hb
  clear hb H1
  go_wp2_with fail
  refine (HK.out.drawn (HE.out.1.below HB1.out) HN.out.1 HN.out.2.1).mono ?_
  rintro e w2 ⟨gv, A, rfl, hg, hf, hlt, hb⟩
  have H2 : Hid (D.gr w2 gv n A ∧ Below w.heap.size w w2) := ⟨hg, Dk.below_step HB1.out hb⟩
  have HF : Hid (Fine n A ∧ ∀ e ∈ A, e.1 < e.2) := ⟨hf, hlt⟩
  obtain ⟨N, hN⟩ : ∃ N, A.length = N := ⟨_, rfl⟩
  have HL : Hid (A.length = N ∧ N ≤ 200) := ⟨hN, by rw [← hN]; exact hf.len⟩
  clear hg hf hlt hb HB1 hN
  go_wp2_with fail
  refine (edges_n HO.out H2.out.1 HL.out.1).mono ?_
  rintro e w3 ⟨ea, ec, rfl, hea, hb⟩
  have H3 : Hid (D.gr w3 gv n A ∧ EdgesAt w3 ea A ∧ Below w.heap.size w w3) := ⟨HO.out.gr_keep H2.out.1 hb, hea, Dk.below_step H2.out.2 hb⟩
  clear hea hb H2
  go_wp2_with fail
  refine (HK.out.code H3.out.2.1 HL.out.1 HF.out.1 HF.out.2).mono ?_
  rintro e w4 ⟨ca, L, cc, rfl, hb, hdec⟩
  have H4 : Hid (D.gr w4 gv n A ∧ EdgesAt w4 ea A ∧ Below w.heap.size w w4) := ⟨HO.out.gr_keep H3.out.1 hb, H3.out.2.1.below hb, Dk.below_step H3.out.2.2 hb⟩
  have HD4 : Hid (Calls _ _ _ _ _) := hdec
  clear hb hdec H3
  go_wp2_with fail
  refine HD4.out.mono ?_
  rintro e w5 ⟨xa, xc, rfl, hx, hb⟩
  have H5 : Hid (D.gr w5 gv n A ∧ EdgesAt w5 ea A ∧ Below w.heap.size w w5 ∧ EdgesAt w5 xa A) := ⟨HO.out.gr_keep H4.out.1 hb, H4.out.2.1.below hb, Dk.below_step H4.out.2.2 hb, hx⟩
  clear hx hb H4 HD4
  go_wp2_with fail
  refine (edges_same HL.out.1 H5.out.2.2.2 H5.out.2.1 (by have := HL.out; omega)).mono ?_
  rintro e w6 ⟨rfl, hb⟩
  have H6 : Hid (D.gr w6 gv n A ∧ EdgesAt w6 ea A ∧ Below w.heap.size w w6 ∧ NumAt w6 a2 m2 f2) := ⟨HO.out.gr_keep H5.out.1 hb, H5.out.2.1.below hb, Dk.below_step H5.out.2.2.1 hb, HE.out.2.below (Dk.below_step H5.out.2.2.1 hb)⟩
  clear hb H5 HE
  have b0 : ((n : Int) == (n : Int)) = true := beq_self_eq_true _
  go_wp2_with fail
  refine (dw_new HO.out (Below.refl _ w6)).mono ?_
  rintro e w7 ⟨d, rfl, hz, -⟩
  have HZ7 : Hid (SW (raw D d) w6 w6.heap.size (fun _ => False) w7) := hz
  clear hz
  go_wp2_with fail
  refine (dw_format HO.out HZ7.out HN.out.1 HN.out.2.1).mono ?_
  rintro e w8 ⟨rfl, hz, -⟩
  have HZ8 : Hid (SW (kept D d n [] 1) w6 w6.heap.size (fun _ => False) w8) := hz
  clear hz HZ7
  go_wp2_with fail
  refine (dw_open HO.out HZ8.out (by decide)).mono ?_
  rintro e w9 ⟨k0, rfl, hz, -⟩
  have HZ9 : Hid (SW (on D d n k0 [] [] 1 none) w6 w6.heap.size (fun _ => False) w9) := hz
  clear hz HZ8
  go_wp2_with fail
  go_loopw [22, 24] (fun ve vi wr => ∃ (i : Nat), i ≤ N ∧ vi = .int .i64 (i : Nat) ∧ SW (on D d n k0 (A.take i) [] 1 none) w6 w6.heap.size (fun _ => False) wr) (fun _ i _ => N - (intOf i).toNat)
  case atStart => exact ⟨0, Nat.zero_le _, rfl, by rw [List.take_zero]; exact HZ9.out⟩
  case round =>
    clear HZ9
    obtain ⟨i, hi, rfl, hsw⟩ := hrel
    have HI : Hid (i ≤ N) := hi
    have HS : Hid (SW (on D d n k0 (A.take i) [] 1 none) w6 w6.heap.size (fun _ => False) wr) := hsw
    clear hi hsw
    by_cases hlt : i < N
    · have i0 : (i : Int) < (N : Int) := by omega
      have HI2 : Hid (i < A.length ∧ i < N) := ⟨by rw [HL.out.1]; exact hlt, hlt⟩
      have j5 : IntKind.i64.wrap ((i : Int) + 1) = (i : Int) + 1 := by rw [IntKind.wrap_i64]; have := HL.out; omega
      have j0 : (0 : Int) ≤ (i : Int) := by omega
      obtain ⟨eb, eo, rfl, q1, q2⟩ := H6.out.2.1.cell i HI2.out.1
      have q3 := Dk.cell_keep HS.out.below q1
      have q4 := Dk.cell_keep HS.out.below q2
      have hput := fun (x : Int) (A' : List (Nat × Nat)) (out : List Bool) (h : Does n (A.take i) [(1, ((A.getD i (0, 0)).1 : Nat), ((A.getD i (0, 0)).2 : Nat))] x A' out) => put_does HF.out.1 HF.out.2 HI2.out.1 h
      obtain ⟨u, hu⟩ : ∃ u, (A.getD i (0, 0)).1 = u := ⟨_, rfl⟩
      obtain ⟨v, hv⟩ : ∃ v, (A.getD i (0, 0)).2 = v := ⟨_, rfl⟩
      rw [hu] at q3 hput
      rw [hv] at q4 hput
      have hcall : ∀ W : World, Below wr.heap.size wr W → Calls Tryz.prog 37 #[k0, .slice (some ⟨W.heap.size, 0, none⟩) 1 1] (W.alloc (.cells #[.int .i64 1, .int .i64 (u : Nat), .int .i64 (v : Nat)] 80)) fun e w' => ∃ oa oc, e = .returned (.tuple #[.slice oa 0 oc, .nilIface]) ∧ SW (on D d n k0 (A.take (i + 1)) [] 1 none) w6 w6.heap.size (fun _ => False) w' := fun W hW => by
        have hW2 : Below wr.heap.size wr (W.alloc (.cells #[.int .i64 1, .int .i64 (u : Nat), .int .i64 (v : Nat)] 80)) := hW.alloc hW.size _
        have hap := sw_since (P := on D d n k0 (A.take i) [] 1 none) HO.out.on_k HO.out.on_o HS.out hW2
        refine (dw_do HO.out hap (event_at W 1 (u : Nat) (v : Nat)) (Nat.le_refl 1) (by decide) (fun _ b o e => Or.inr (Or.inr ?_))).mono ?_
        · simp only [Option.some.injEq, Addr.mk.injEq, and_true] at e
          rw [← e.1]
          exact ⟨hW.size, by simp⟩
        · rintro e w' ⟨vv, x, A', out, oa, oc, rfl, her, hd, -, -, -, hz, -⟩
          obtain ⟨rfl, rfl, rfl⟩ := hput _ _ _ hd
          obtain rfl := Dk.Er.nil her
          exact ⟨oa, oc, rfl, hz.less fun b q => q.elim⟩
      have HC : Hid (∀ W : World, Below wr.heap.size wr W → Calls Tryz.prog 37 #[k0, .slice (some ⟨W.heap.size, 0, none⟩) 1 1] (W.alloc (.cells #[.int .i64 1, .int .i64 (u : Nat), .int .i64 (v : Nat)] 80)) fun e w' => ∃ oa oc, e = .returned (.tuple #[.slice oa 0 oc, .nilIface]) ∧ SW (on D d n k0 (A.take (i + 1)) [] 1 none) w6 w6.heap.size (fun _ => False) w') := hcall
      have hbuild : ∀ (x y z : Int) (W : World), (Instr.build 80 #[(0, .int .i64 x), (1, .int .i64 y), (2, .int .i64 z)]).run Tryz.prog W = .ok (.agg #[.int .i64 x, .int .i64 y, .int .i64 z]) W := fun x y z W => run_build W 80 _ _ (by kernel_rfl)
      have hS0 : wr.drew.cell? ⟨eb, eo + i * 2, none⟩ = some (.int .i64 (u : Nat)) ∧ wr.drew.cell? ⟨eb, eo + i * 2 + 1, none⟩ = some (.int .i64 (v : Nat)) := ⟨q3, q4⟩
      rw [hu] at q1
      rw [hv] at q2
      have HQ : Hid (w6.cell? ⟨eb, eo + i * 2, none⟩ = some (.int .i64 (u : Nat)) ∧ w6.cell? ⟨eb, eo + i * 2 + 1, none⟩ = some (.int .i64 (v : Nat))) := ⟨q1, q2⟩
      clear hcall hput q1 q2 hu hv hlt
      go_wp2_with fail
      go_region_held3 (fun V => V.cell? ⟨eb, eo + i * 2, none⟩ = some (.int .i64 (u : Nat)) ∧ V.cell? ⟨eb, eo + i * 2 + 1, none⟩ = some (.int .i64 (v : Nat))) (first | (go_keep; done) | exact hS0 | exact ⟨Dk.cell_keep hz.below HQ.out.1, Dk.cell_keep hz.below HQ.out.2⟩)
        (first | (go_at_call 37; refine (HC.out wr.drew (Below.refl _ _).drew).mono ?_; rintro e w12 ⟨oa, oc, rfl, hz⟩))
      have HZ : Hid (SW (on D d n k0 (A.take (i + 1)) [] 1 none) w6 w6.heap.size (fun _ => False) w12) := hz
      clear hz
      go_wp2_with fail
      go_roundw
      case rel => exact ⟨i + 1, by have := HI2.out; omega, by go_num, HZ.out⟩
      case measure => simp [intOf]; have := HI2.out; omega
    · have i0 : ¬ (i : Int) < (N : Int) := by omega
      have hA : A.take i = A := List.take_of_length_le (by have := HL.out.1; omega)
      have HS2 : Hid (SW (on D d n k0 A [] 1 none) w6 w6.heap.size (fun _ => False) wr) := by have := HS.out; rwa [hA] at this
      clear HS hA hlt
      go_wp2_with fail
      refine (dw_save HO.out HS2.out (by decide)).mono ?_
      rintro e w13 ⟨hor, -⟩
      replace hor := hor.resolve_right fun q => q.2.1 rfl
      obtain ⟨g', rfl, hz, hg⟩ := hor
      obtain rfl := hg rfl
      have HS3 : Hid (SW (on D d n k0 A A 2 none) w6 w6.heap.size (fun _ => False) w13) := hz
      clear hz hg HS2
      go_wp2_with fail
      refine (dw_crash HO.out HS3.out (H6.out.2.2.2.below HS3.out.below) HN.out.2.2.1 HN.out.2.2.2 (Sk.num_apart H6.out.2.2.2)).mono ?_
      rintro e w14 ⟨rfl, hz, -⟩
      have HS4 : Hid (SW (kept D d n A 2) w6 w6.heap.size (fun _ => False) w14) := hz
      clear hz HS3
      go_wp2_with fail
      refine (dw_open HO.out HS4.out (by decide)).mono ?_
      rintro e w15 ⟨k1, rfl, hz, -⟩
      have HS5 : Hid (SW (on D d n k1 A A 2 none) w6 w6.heap.size (fun _ => False) w15) := hz
      clear hz HS4
      go_wp2_with fail
      refine (dw_graph HO.out HS5.out).mono ?_
      rintro e w16 ⟨hv, rfl, hg, hz, -⟩
      have H7 : Hid (D.gr w16 hv n A ∧ D.gr w16 gv n A ∧ EdgesAt w16 ea A ∧ Below w.heap.size w w16) := ⟨hg, HO.out.gr_keep H6.out.1 hz.below, H6.out.2.1.below hz.below, Dk.below_step H6.out.2.2.1 hz.below⟩
      clear hg hz HS5 H6
      go_wp2_with fail
      refine (edges_n HO.out H7.out.1 HL.out.1).mono ?_
      rintro e w17 ⟨ha, hc, rfl, hha, hb⟩
      have H8 : Hid (D.gr w17 hv n A ∧ D.gr w17 gv n A ∧ EdgesAt w17 ea A ∧ Below w.heap.size w w17 ∧ EdgesAt w17 ha A) := ⟨HO.out.gr_keep H7.out.1 hb, HO.out.gr_keep H7.out.2.1 hb, H7.out.2.2.1.below hb, Dk.below_step H7.out.2.2.2 hb, hha⟩
      clear hha hb H7
      go_wp2_with fail
      refine (edges_same HL.out.1 H8.out.2.2.2.2 H8.out.2.2.1 (by have := HL.out; omega)).mono ?_
      rintro e w18 ⟨rfl, hb⟩
      have H9 : Hid (D.gr w18 hv n A ∧ D.gr w18 gv n A ∧ Below w.heap.size w w18) := ⟨HO.out.gr_keep H8.out.1 hb, HO.out.gr_keep H8.out.2.1 hb, Dk.below_step H8.out.2.2.2.1 hb⟩
      clear hb H8
      by_cases hab : IsN n a ∧ IsN n b
      · go_wp2_with fail
        refine (HK.out.joined H9.out.2.1 hab.1 hab.2).mono ?_
        rintro e w19 ⟨q, rfl, hq, hb⟩
        have H10 : Hid (D.gr w19 hv n A ∧ D.gr w19 gv n A ∧ Below w.heap.size w w19) := ⟨HO.out.gr_keep H9.out.1 hb, HO.out.gr_keep H9.out.2.1 hb, Dk.below_step H9.out.2.2 hb⟩
        clear hb H9
        go_wp2_with fail
        refine (HK.out.joined H10.out.1 hab.1 hab.2).mono ?_
        rintro e w20 ⟨q', rfl, hq', hb⟩
        have H11 : Hid (D.gr w20 hv n A ∧ D.gr w20 gv n A ∧ Below w.heap.size w w20) := ⟨HO.out.gr_keep H10.out.1 hb, HO.out.gr_keep H10.out.2.1 hb, Dk.below_step H10.out.2.2 hb⟩
        obtain rfl : q = q' := Bool.eq_iff_iff.2 (hq.trans hq'.symm)
        have b1 : (q == q) = true := beq_self_eq_true _
        clear hb H10 hq hq' hab
        have hd0 : Below w20.heap.size w20 w20.drew := (Below.refl _ _).drew
        have HP1 : Hid (D.gr w20.drew hv n A) := HO.out.gr_keep H11.out.1 hd0
        obtain ⟨pp, hpp⟩ := rest_of A
        have HPP : Hid (Rest A pp) := hpp
        have b2 : ((partsOf n pp : Int) == (partsOf n pp : Int)) = true := beq_self_eq_true _
        clear hd0 hpp
        go_wp2_with fail
        go_region_held3 (fun _ => True) (trivial)
          (first
            | (go_at_call 23; with_reducible refine (HK.out.parts HP1.out HPP.out).mono ?_; rintro e w21 ⟨rfl, hb21⟩)
            | (go_at_call 23; with_reducible refine (HK.out.parts (HO.out.gr_keep (HO.out.gr_keep H11.out.2.1 (Below.refl _ _).drew) hb21) HPP.out).mono ?_; rintro e w22 ⟨rfl, hb22⟩))
        have HB : Hid (Below w.heap.size w w22) := Dk.below_step (Dk.below_step (Dk.below_step H11.out.2.2 (Below.refl _ _).drew) hb21) hb22
        clear hb21 hb22
        go_wp2_with fail
        go_ret
        exact ⟨rfl, HB.out⟩
      · go_wp2_with fail
        refine (HK.out.joined_no H9.out.2.1 hab).mono ?_
        rintro e w19 ⟨rfl, hb⟩
        have H10 : Hid (D.gr w19 hv n A ∧ D.gr w19 gv n A ∧ Below w.heap.size w w19) := ⟨HO.out.gr_keep H9.out.1 hb, HO.out.gr_keep H9.out.2.1 hb, Dk.below_step H9.out.2.2 hb⟩
        clear hb H9
        go_wp2_with fail
        refine (HK.out.joined_no H10.out.1 hab).mono ?_
        rintro e w20 ⟨rfl, hb⟩
        have H11 : Hid (D.gr w20 hv n A ∧ D.gr w20 gv n A ∧ Below w.heap.size w w20) := ⟨HO.out.gr_keep H10.out.1 hb, HO.out.gr_keep H10.out.2.1 hb, Dk.below_step H10.out.2.2 hb⟩
        clear hb H10 hab
        have hd0 : Below w20.heap.size w20 w20.drew := (Below.refl _ _).drew
        have HP1 : Hid (D.gr w20.drew hv n A) := HO.out.gr_keep H11.out.1 hd0
        obtain ⟨pp, hpp⟩ := rest_of A
        have HPP : Hid (Rest A pp) := hpp
        have b2 : ((partsOf n pp : Int) == (partsOf n pp : Int)) = true := beq_self_eq_true _
        clear hd0 hpp
        go_wp2_with fail
        go_region_held3 (fun _ => True) (trivial)
          (first
            | (go_at_call 23; with_reducible refine (HK.out.parts HP1.out HPP.out).mono ?_; rintro e w21 ⟨rfl, hb21⟩)
            | (go_at_call 23; with_reducible refine (HK.out.parts (HO.out.gr_keep (HO.out.gr_keep H11.out.2.1 (Below.refl _ _).drew) hb21) HPP.out).mono ?_; rintro e w22 ⟨rfl, hb22⟩))
        have HB : Hid (Below w.heap.size w w22) := Dk.below_step (Dk.below_step (Dk.below_step H11.out.2.2 (Below.refl _ _).drew) hb21) hb22
        clear hb21 hb22
        go_wp2_with fail
        go_ret
        exact ⟨rfl, HB.out⟩

theorem top_kept (H1 : To.OneOk) (O : DeskOk D) (K : KeptOk D) (he : EvAt w a1 m1 f1) (hk : NumAt w a2 m2 f2) (hm2 : m2 ≤ c2) (hc2 : c2 ≤ maxLen) (p a b : Int) :
    Calls Tryz.prog 7 #[.int .i64 p, .slice a1 m1 c1, .slice a2 m2 c2, .int .i64 a, .int .i64 b] w fun e w' => e = .returned (.bool true) ∧ Below w.heap.size w w' := by
  by_cases hp : p < 1 ∨ 60 < p
  · exact kept_no H1 K p hp
  · obtain ⟨n, rfl⟩ := Int.eq_ofNat_of_zero_le (show 0 ≤ p by omega)
    exact kept_ok H1 O K he (by omega) (by omega) hk hm2 hc2

end Go.Proofs.YtcfemppdeidjmacGreat.Ds
