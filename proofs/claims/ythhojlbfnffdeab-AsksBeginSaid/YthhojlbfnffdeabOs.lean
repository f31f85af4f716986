/-
  AsksBegin, where no event is handed in.
-/
import Derived.Test.YthhojlbfnffdeabOr
import Derived.Laws.AppendOwnNone
namespace Go.Proofs.Ythhojlbfnffdeab.As
open Go.RowKit Go.Deep
open Go.RowKit (Below)
set_option linter.unusedVariables false

variable {w w' : World} {f : Nat → Int × Int × Int}

set_option maxRecDepth 100000 in
set_option maxHeartbeats 8000000 in
theorem begin_none (H : AnsOk) {m c n : Nat} (h : EvAt w none m f) (hmc : m ≤ c) (hcm : c ≤ maxLen) (hm0 : m = 0 ∧ c = 0) (x y : Int) (hv : Valid (n : Nat) m f) (k : Nat) (hkm : k ≤ m) :
    Calls Try.prog 3 #[.int .i64 (n : Nat), .slice none m c, .int .i64 (k : Nat), .int .i64 x, .int .i64 y] w fun e w' => e = .returned (.bool true) ∧ Below w.heap.size w w' := by
  have HM0 : Hid (m = 0 ∧ c = 0) := hm0
  have HH : Hid (EvAt w none m f) := h
  have HV : Hid (Valid (n : Nat) m f) := hv
  have HVk : Hid (Valid (n : Nat) k f) := ⟨hv.1, by have := hv.2.1; omega, fun j hj => hv.2.2 j (by omega)⟩
  have HA : Hid AnsOk := H
  obtain ⟨z0, hi0, hz0, hz1, hz2⟩ := info_parts Try.infoEvent
  clear hm0
  have hbuild : ∀ (x y z : Int) (W : World), (Instr.build 29 #[(0, .int .i64 x), (1, .int .i64 y), (2, .int .i64 z)]).run Try.prog W = .ok (.agg #[.int .i64 x, .int .i64 y, .int .i64 z]) W := fun x y z W => run_build W 29 _ _ (by kernel_rfl)
  have hbA : Below w.heap.size w (w.alloc (.cells #[.int .i64 3, .int .i64 1, .int .i64 1] 29)) := (Below.refl _ _).alloc (Nat.le_refl _) _
  have HE0 : Hid (EvAt (w.alloc (.cells #[.int .i64 3, .int .i64 1, .int .i64 1] 29)) (some ⟨w.heap.size, 0, none⟩) 1 (fun _ => (3, 1, 1))) := event_new w 3 1 1
  clear h hv H
  go_enter Try.func3, Try.ntmps3
  go_wp2_with fail
  refine (HA.out.ok 2 HE0.out valid_self).mono ?_
  rintro e w1 ⟨v1, l1, rfl, hans, hown, hb1⟩
  obtain rfl := ans_self hans
  obtain ⟨a1, c1, rfl, hbo, -, -⟩ := own_bools (n := 1) hown rfl
  clear hown
  have hs := bools_same (c := c1) (c' := 1) (hbo.below ((Below.refl _ _).alloc (Nat.le_refl _) (.cells #[.bool true] 4))) (bools_new w1 true) (by decide)
  have HB1 : Hid (Below w.heap.size w (w1.alloc (.cells #[.bool true] 4))) := (below_step hbA hb1).alloc (by have := (below_step hbA hb1).size; exact this) _
  clear hans hbo hb1 hbA HE0
  go_wp2_with fail
  refine hs.mono ?_
  rintro e w2 ⟨rfl, hb2⟩
  have HB2 : Hid (Below w.heap.size w w2) := below_step HB1.out hb2
  clear hs hb2 HB1
  go_wp2_with fail
  refine (HA.out.ok (n : Nat) (HH.out.below HB2.out) HV.out).mono ?_
  rintro e w3 ⟨v3, l3, rfl, hans3, hown3, hb3⟩
  obtain ⟨a3, c3, rfl, -, hN3, hM3⟩ := own_bools hown3 rfl
  obtain ⟨N3, hL3⟩ : ∃ N, l3.length = N := ⟨_, rfl⟩
  rw [hL3] at hown3 hN3
  rw [hL3]
  have HB3 : Hid (Below w.heap.size w w3) := below_step HB2.out hb3
  have HAns3 : Hid (Ans f m l3) := hans3
  have HL3 : Hid (l3.length = N3) := hL3
  have HR3 : Hid (w3.ownsRow w.heap.size 4 1 (.slice a3 N3 c3) N3 (bools l3)) := own_mono hown3 HB2.out.size
  have k0 : (0 : Int) ≤ (k : Int) := by omega
  have k1 : (k : Int) ≤ (m : Int) := by omega
  have k2 : (k : Int) ≤ (c : Int) := by omega
  have k3 : ¬ ((k : Int) < 0) := by omega
  have k4 : ¬ ((m : Int) < (k : Int)) := by omega
  have k5 : ¬ (m < k) := by omega
  clear hb3 HB2 hans3 hown3 hL3
  go_wp2_with fail
  refine (HA.out.ok (n : Nat) (f := f) (fun i hi => (HH.out.below HB3.out) i (by omega)) HVk.out).mono ?_
  rintro e w4 ⟨v4, l4, rfl, hans4, hown4, hb4⟩
  obtain ⟨a4, c4, rfl, -, hN4, hM4⟩ := own_bools hown4 rfl
  obtain ⟨l5, rfl⟩ := HAns3.out.first hans4 hkm
  obtain ⟨N5, hN5⟩ : ∃ N5, l5.length = N5 := ⟨_, rfl⟩
  obtain ⟨N4, e4⟩ : ∃ N, l4.length = N := ⟨_, rfl⟩
  rw [e4] at hown4 hN4
  rw [e4]
  obtain rfl : N3 = N4 + N5 := by rw [← HL3.out, List.length_append, e4, hN5]
  have HB4 : Hid (Below w.heap.size w w4) := below_step HB3.out hb4
  have HR34 : Hid (w4.ownsRow w.heap.size 4 1 (.slice a3 (N4 + N5) c3) (N4 + N5) (bools (l4 ++ l5))) := own_keep HR3.out hb4
  have HR44 : Hid (w4.ownsRow w.heap.size 4 1 (.slice a4 N4 c4) N4 (bools l4)) := own_mono hown4 HB3.out.size
  have HAns4 : Hid (Ans f k l4) := hans4
  have HE : Hid (l4.length = N4 ∧ l5.length = N5) := ⟨e4, hN5⟩
  have HE34 : Hid ((l4 ++ l5).length = N4 + N5) := show _ = _ by rw [List.length_append, e4, hN5]
  have hs4 := HAns4.out.len
  have hs5 : N4 + N5 ≤ 120 := by
    have h1 := HAns3.out.len
    have h2 := places_len f 3 m
    have h3 := HV.out.2.1
    rw [List.length_append, e4, hN5] at h1
    omega
  have y0 : (0 : Int) ≤ ((N4 : Nat) : Int) := by omega
  have y1 : ((N4 : Nat) : Int) ≤ ((N4 + N5 : Nat) : Int) := by omega
  have y2 : ((N4 : Nat) : Int) ≤ (c3 : Int) := by omega
  have y3 : ¬ (((N4 + N5 : Nat) : Int) < ((N4 : Nat) : Int)) := by omega
  have y4 : ¬ (N4 + N5 < N4) := by omega
  clear hb4 hans4 hown4 HR3 e4 hN5 hs4 k3 k4 k5 HB3 HL3
  have hsm := bools_same (c := c3) (c' := c4) ((own_at HR34.out HE34.out).take HE.out.1) (own_at HR44.out HE.out.1) (by omega)
  go_wp2_with fail
  refine hsm.mono ?_
  rintro e w5 ⟨rfl, hb5⟩
  have HB5 : Hid (Below w.heap.size w w5) := below_step HB4.out hb5
  have HR35 : Hid (w5.ownsRow w.heap.size 4 1 (.slice a3 (N4 + N5) c3) (N4 + N5) (bools (l4 ++ l5))) := own_keep HR34.out hb5
  have HR45 : Hid (w5.ownsRow w.heap.size 4 1 (.slice a4 N4 c4) N4 (bools l4)) := own_keep HR44.out hb5
  clear hsm hb5 HB4 HR34 HR44
  obtain ⟨p, hp⟩ : ∃ p : Bool, p = true ↔ (0 ≤ x ∧ x < (n : Int)) := ⟨decide (0 ≤ x ∧ x < (n : Int)), by simp⟩
  obtain ⟨q, hq⟩ : ∃ q : Bool, q = true ↔ (0 ≤ y ∧ y < (n : Int)) := ⟨decide (0 ≤ y ∧ y < (n : Int)), by simp⟩
  go_wp2_with fail
  refine (node_any (n : Nat) x _ p hp).mono ?_
  rintro e w6 ⟨rfl, rfl⟩
  go_wp2_with fail
  refine (node_any (n : Nat) y _ q hq).mono ?_
  rintro e w7 ⟨rfl, rfl⟩
  cases p with
  | false =>
    clear hp hq
    go_wp2_with fail
    go_ret
    exact ⟨rfl, HB5.out⟩
  | true =>
  cases q with
  | false =>
    clear hp hq
    go_wp2_with fail
    go_ret
    exact ⟨rfl, HB5.out⟩
  | true =>
  by_cases hm120 : 120 ≤ m
  · have z1 : (120 : Int) ≤ (m : Int) := by omega
    clear hp hq
    go_wp2_with fail
    go_ret
    exact ⟨rfl, HB5.out⟩
  have z1 : ¬ ((120 : Int) ≤ (m : Int)) := by omega
  have z2 : ¬ (120 ≤ m) := hm120
  have HX : Hid ((0 ≤ x ∧ x < (n : Int)) ∧ 0 ≤ y ∧ y < (n : Int)) := ⟨hp.1 rfl, hq.1 rfl⟩
  clear hp hq
  have hs5w : w.heap.size ≤ w7.heap.size := HB5.out.size
  obtain ⟨rfl, rfl⟩ := HM0.out
  obtain rfl : k = 0 := by omega
  have hb8 : Below w7.heap.size w7 w7 := Below.refl _ _
  have hown8 : w7.ownsRow w.heap.size 29 3 (.slice none 0 0) 0 (threes (evs f 0 0)) := World.ownsRow_nil ..
  have HB8 : Hid (Below w.heap.size w w7) := below_step HB5.out hb8
  have HR38 : Hid (w7.ownsRow w.heap.size 4 1 (.slice a3 (N4 + N5) c3) (N4 + N5) (bools (l4 ++ l5))) := own_keep HR35.out hb8
  have HR48 : Hid (w7.ownsRow w.heap.size 4 1 (.slice a4 N4 c4) N4 (bools l4)) := own_keep HR45.out hb8
  have HO8 : Hid (w7.ownsRow w.heap.size 29 3 (.slice none 0 0) 0 (threes (evs f 0 0))) := hown8
  have hs8 : w.heap.size ≤ w7.heap.size := HB8.out.size
  clear hown8 hb8
  go_wp2_with (first
    | (at_builtin; refine wpList_append_own_none rfl (.tmp 102) (.tmp 105) 22 rfl w.heap.size 29 z0 3 Try.underlying22 hi0 (.slice none 0 0) 0 [] rfl (World.ownsRow_nil ..) rfl ?_)
    | (at_builtin; refine wpList_append_lies _ rfl (.tmp 107) (.tmp 111) 22 rfl w.heap.size 29 z0 (.agg #[.int .i64 0, .int .i64 0, .int .i64 0]) 3 24 Try.underlying22 hi0 hz0 hz1 hz2 rfl (by decide) (.slice none 0 0) 0 (threes (evs f 0 0)) rfl (HO8.out.alloc _) ⟨w7.heap.size, 0, none⟩ 1 1 (three (3, x, y)) rfl rfl (three_new _ _ _ _) ?d2 (by decide) ?d3 ?d4 ?d5 _ rfl ?_))
  case d2 => intro z hz; exact three_one [(3, x, y)] z (by simpa [threes] using hz)
  case d3 => unfold maxLen; omega
  case d4 => omega
  case d5 => simp; omega
  intro g9 cap9 w9 hown9 hgrow9 hat9 hlt9
  have HB9 : Hid (Below w.heap.size w w9) := (HB8.out.alloc hs8 _).grown hgrow9 (by simp; omega) (fun k e => (HO8.out.lt k e).1)
  have HO9 : Hid (w9.ownsRow w.heap.size 29 3 (.slice (some ⟨g9, 0, none⟩) (0 + 1) cap9) (0 + 1) (threes (evs f 0 0 ++ [(3, x, y)]))) := show World.ownsRow .. by
    rw [threes_app]
    exact hown9
  have HR39 : Hid (w9.ownsRow w.heap.size 4 1 (.slice a3 (N4 + N5) c3) (N4 + N5) (bools (l4 ++ l5))) := own_grown (HR38.out.alloc _) (HO8.out.alloc _) (by decide) hgrow9
  have HR49 : Hid (w9.ownsRow w.heap.size 4 1 (.slice a4 N4 c4) N4 (bools l4)) := own_grown (HR48.out.alloc _) (HO8.out.alloc _) (by decide) hgrow9
  have hs9 : w.heap.size ≤ w9.heap.size := HB9.out.size
  clear hown9 hgrow9 hat9 hlt9 HB8 HO8 HR38 HR48
  all_goals
    have HB10 : Hid (Below w.heap.size w w9) := HB9.out
    have HE10 : Hid (EvAt w9 (some ⟨g9, 0, none⟩) (0 + 1) (ins f 0 (3, x, y))) := by
      obtain ⟨a10, c10, e10, hev10⟩ := own_events (f := ins f 0 (3, x, y)) (m := 0 + 1) (by rw [evs_ins (Nat.le_refl 0)]; simpa [evs] using HO9.out)
      cases e10
      exact hev10
    have HR310 : Hid (w9.ownsRow w.heap.size 4 1 (.slice a3 (N4 + N5) c3) (N4 + N5) (bools (l4 ++ l5))) := HR39.out
    have HR410 : Hid (w9.ownsRow w.heap.size 4 1 (.slice a4 N4 c4) N4 (bools l4)) := HR49.out
    have HV10 : Hid (Valid (n : Nat) (0 + 1) (ins f 0 (3, x, y))) := ⟨HV.out.1, by omega, may_ins HV.out.2.2 hkm rfl (by have := HX.out.1; exact ⟨this.1, by simpa using this.2⟩) (by have := HX.out.2; exact ⟨this.1, by simpa using this.2⟩)⟩
    go_wp2_with (first
      | (at_builtin; refine wpList_append_own_none rfl (.tmp 113) (.tmp 116) 22 rfl w.heap.size 29 z0 3 Try.underlying22 hi0 (.slice (some ⟨g9, 0, none⟩) (0 + 1) cap9) (0 + 1) (threes (evs f 0 0 ++ [(3, x, y)])) rfl HO9.out rfl ?_))
    clear HB9 HO9 HR39 HR49
    refine (HA.out.ok (n : Nat) HE10.out HV10.out).mono ?_
    rintro e w11 ⟨v11, l11, rfl, hans11, hown11, hb11⟩
    obtain ⟨bz, rfl⟩ := HAns3.out.more HAns4.out hkm rfl hans11
    obtain ⟨a11, c11, rfl, -, hN11, hM11⟩ := own_bools hown11 rfl
    have e11 : (l4 ++ bz :: l5).length = N4 + N5 + 1 := by rw [List.length_append, List.length_cons, HE.out.1, HE.out.2]; omega
    rw [e11] at hown11 hN11
    rw [e11]
    have HR11 : Hid (w11.ownsRow w.heap.size 4 1 (.slice a11 (N4 + N5 + 1) c11) (N4 + N5 + 1) (bools (l4 ++ bz :: l5))) := own_mono hown11 HB10.out.size
    have HE11 : Hid ((l4 ++ bz :: l5).length = N4 + N5 + 1) := e11
    have HB11 : Hid (Below w.heap.size w w11) := below_step HB10.out hb11
    have HR311 : Hid (w11.ownsRow w.heap.size 4 1 (.slice a3 (N4 + N5) c3) (N4 + N5) (bools (l4 ++ l5))) := own_keep HR310.out hb11
    have HR411 : Hid (w11.ownsRow w.heap.size 4 1 (.slice a4 N4 c4) N4 (bools l4)) := own_keep HR410.out hb11
    clear hans11 hown11 hb11 e11 HB10 HR310 HR410 HE10 HV10
    have n1 : ((N4 : Nat) : Int) ≤ (c11 : Int) := by omega
    have n2 : ((N4 : Nat) : Int) + 1 ≤ ((N4 + N5 + 1 : Nat) : Int) := by omega
    have n3 : IntKind.i64.wrap (((N4 + N5 : Nat) : Int) + 1) = ((N4 + N5 + 1 : Nat) : Int) := by rw [IntKind.wrap_i64]; omega
    have n4 : IntKind.i64.wrap (((N4 : Nat) : Int) + 1) = ((N4 + 1 : Nat) : Int) := by rw [IntKind.wrap_i64]; omega
    have hs1 := bools_same (c := c11) (c' := c4) ((own_at HR11.out HE11.out).take HE.out.1) (own_at HR411.out HE.out.1) (by omega)
    go_wp2_with fail
    refine hs1.mono ?_
    rintro e w12 ⟨rfl, hb12⟩
    have HB12 : Hid (Below w.heap.size w w12) := below_step HB11.out hb12
    have HR12 : Hid (w12.ownsRow w.heap.size 4 1 (.slice a11 (N4 + N5 + 1) c11) (N4 + N5 + 1) (bools (l4 ++ bz :: l5))) := own_keep HR11.out hb12
    have HR312 : Hid (w12.ownsRow w.heap.size 4 1 (.slice a3 (N4 + N5) c3) (N4 + N5) (bools (l4 ++ l5))) := own_keep HR311.out hb12
    clear hs1 hb12 HB11 HR11 HR311 HR411
    go_wp2_with fail
    obtain ⟨A1, hA1⟩ : ∃ z, N4 + 1 = z := ⟨_, rfl⟩
    clear n1 n2 n3 n4 y0 y1 y2 y3 y4
    have n4 : IntKind.i64.wrap ((N4 : Int) + 1) = (A1 : Int) := by rw [IntKind.wrap_i64]; omega
    have n5 : (0 : Int) ≤ (A1 : Int) := by omega
    have n9 : (0 : Int) ≤ (N4 : Int) := by omega
    have n6 : A1 ≤ N4 + N5 + 1 := by omega
    have n8 : N4 ≤ N4 + N5 := by omega
    have HG : Hid (N4 + 1 = A1) := hA1
    clear hA1
    have hd1 : (l4 ++ [bz]) ++ l5 = l4 ++ bz :: l5 := by simp
    have hdr : Below w12.heap.size w12 w12.drew := (Below.refl _ _).drew
    have hB1 : BoolsAt w12.drew (if c11 = A1 then a11 else a11.map (fun x => x.add A1)) N5 l5 := BoolsAt.dropped (l1 := l4 ++ [bz]) (by rw [hd1]; exact (own_at HR12.out HE11.out).below hdr) hN11 (by rw [List.length_append, HE.out.1, ← HG.out]; rfl) HE.out.2
    have hB2 : BoolsAt w12.drew (if c3 = N4 then a3 else a3.map (fun x => x.add N4)) N5 l5 := BoolsAt.dropped ((own_at HR312.out HE34.out).below hdr) hN3 HE.out.1 HE.out.2
    have hs2 : ∀ (a a' : Option Addr) (n n' c c' : Nat), BoolsAt w12.drew a n l5 → BoolsAt w12.drew a' n' l5 → Calls Try.prog 5 #[.slice a n c, .slice a' n' c'] w12.drew fun e w' => e = .returned (.bool true) ∧ Hid (Below w12.heap.size w12 w') := fun a a' n n' c c' h h' => by
      obtain rfl : n = n' := h.len.symm.trans h'.len
      refine (bools_same h h' (by have := h.len; have := HE.out.2; omega)).mono ?_
      rintro e w' ⟨rfl, hb⟩
      exact ⟨rfl, below_step hdr hb⟩
    have HB1' : Hid (BoolsAt w12.drew (if c11 = A1 then a11 else a11.map (fun x => x.add A1)) N5 l5) := hB1
    have HB2' : Hid (BoolsAt w12.drew (if c3 = N4 then a3 else a3.map (fun x => x.add N4)) N5 l5) := hB2
    clear hd1 hdr hB1 hB2
    generalize hG1 : N4 + N5 + 1 = N11 at *
    generalize hG2 : N4 + N5 = N3 at *
    have HG1 : Hid (N4 + N5 = N3 ∧ N4 + N5 + 1 = N11) := ⟨hG2, by rw [hG2]; exact hG1⟩
    clear hG1 hG2
    have n7 : (A1 : Int) ≤ (N11 : Int) := by omega
    have n10 : (N4 : Int) ≤ (N3 : Int) := by omega
    clear n6 n8
    by_cases hc1 : c11 = A1
    · by_cases hc2 : c3 = N4
      · have g1 : (c11 = A1) = True := eq_true hc1
        have g2 : (c3 = N4) = True := eq_true hc2
        have hB1 := HB1'.out
        have hB2 := HB2'.out
        rw [if_pos hc1] at hB1
        rw [if_pos hc2] at hB2
        have HC1 : Hid (BoolsAt w12.drew _ N5 l5) := hB1
        have HC2 : Hid (BoolsAt w12.drew _ N5 l5) := hB2
        clear hB1 hB2 HB1' HB2'
        go_region_held3 (fun _ => True) (trivial)
          (first
            | (go_at_call 5; refine (hs2 _ _ _ _ _ _ (HC1.out.cast (by have := HG.out; have := HG1.out; omega)) (HC2.out.cast (by have := HG.out; have := HG1.out; omega))).mono ?_; rintro e w13 ⟨rfl, hb13⟩))
        go_wp2_with fail
        go_ret
        exact ⟨rfl, below_step HB12.out hb13.out⟩
      · have g1 : (c11 = A1) = True := eq_true hc1
        have hB1 := HB1'.out
        have hB2 := HB2'.out
        rw [if_pos hc1] at hB1
        rw [if_neg hc2] at hB2
        have HC1 : Hid (BoolsAt w12.drew _ N5 l5) := hB1
        have HC2 : Hid (BoolsAt w12.drew _ N5 l5) := hB2
        clear hB1 hB2 HB1' HB2'
        go_region_held3 (fun _ => True) (trivial)
          (first
            | (go_at_call 5; refine (hs2 _ _ _ _ _ _ (HC1.out.cast (by have := HG.out; have := HG1.out; omega)) (HC2.out.cast (by have := HG.out; have := HG1.out; omega))).mono ?_; rintro e w13 ⟨rfl, hb13⟩))
        go_wp2_with fail
        go_ret
        exact ⟨rfl, below_step HB12.out hb13.out⟩
    · by_cases hc2 : c3 = N4
      · have g2 : (c3 = N4) = True := eq_true hc2
        have hB1 := HB1'.out
        have hB2 := HB2'.out
        rw [if_neg hc1] at hB1
        rw [if_pos hc2] at hB2
        have HC1 : Hid (BoolsAt w12.drew _ N5 l5) := hB1
        have HC2 : Hid (BoolsAt w12.drew _ N5 l5) := hB2
        clear hB1 hB2 HB1' HB2'
        go_region_held3 (fun _ => True) (trivial)
          (first
            | (go_at_call 5; refine (hs2 _ _ _ _ _ _ (HC1.out.cast (by have := HG.out; have := HG1.out; omega)) (HC2.out.cast (by have := HG.out; have := HG1.out; omega))).mono ?_; rintro e w13 ⟨rfl, hb13⟩))
        go_wp2_with fail
        go_ret
        exact ⟨rfl, below_step HB12.out hb13.out⟩
      · skip
        have hB1 := HB1'.out
        have hB2 := HB2'.out
        rw [if_neg hc1] at hB1
        rw [if_neg hc2] at hB2
        have HC1 : Hid (BoolsAt w12.drew _ N5 l5) := hB1
        have HC2 : Hid (BoolsAt w12.drew _ N5 l5) := hB2
        clear hB1 hB2 HB1' HB2'
        go_region_held3 (fun _ => True) (trivial)
          (first
            | (go_at_call 5; refine (hs2 _ _ _ _ _ _ (HC1.out.cast (by have := HG.out; have := HG1.out; omega)) (HC2.out.cast (by have := HG.out; have := HG1.out; omega))).mono ?_; rintro e w13 ⟨rfl, hb13⟩))
        go_wp2_with fail
        go_ret
        exact ⟨rfl, below_step HB12.out hb13.out⟩

end Go.Proofs.Ythhojlbfnffdeab.As
