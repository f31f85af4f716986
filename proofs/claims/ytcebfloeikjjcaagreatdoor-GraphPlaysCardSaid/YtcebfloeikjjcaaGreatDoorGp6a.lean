/-
  GraphPlays: what is asked behind a step, of an edge that is there.
-/
import Derived.Test.YtcebfloeikjjcaaGreatDoorGp6
import Derived.Deep.DeepCutAuto
import Derived.Deep.CutBlock
namespace Go.Proofs.YtcebfloeikjjcaaGreatDoor.Gr
open Go.RowKit Go.Deep Go.Maps
open Go.RowKit (Below)
set_option linter.unusedVariables false

set_option maxRecDepth 1000000 in
set_option maxHeartbeats 8000000 in
theorem tl_in {w0 w : World} {G : GPl} {AE : List (Nat × Nat)} {lv : Nat × Nat → Nat} {tr : Nat × Nat → Bool} {a1 al : Option Addr} {N1 c1 la ca m gs : Nat} {qa : Bool} {what x y e : Int} {U : Nat → Value} (h0 : ErrType w0) (hq : PW w0 G AE lv tr a1 N1 c1 w) (hN1 : N1 ≤ 60) (hNm : N1 ≤ m + 1) (hv : SG G gs what x y w)
    {u v : Nat} (hx : x = (u : Nat)) (hy : y = (v : Nat)) (hu : u < G.n) (hv2 : v < G.n) (he : e = 0) (hqa : qa = true) (hin : (min u v, max u v) ∈ AE) (Q : Exit → Act → World → Prop) (hQ : ∀ A w', Tl w0 G al la ca m A w' → Q .normal A w') :
    ((Tryz.f4.body.bind (afterBlock 2)).getD .skip).wp Tryz.prog Q ⟨#[.int .i64 (G.n : Nat), .slice al la ca, U 2, U 3, U 4, U 5, .pointer (some ⟨G.g, 0, none⟩), U 7, .bool true, .slice a1 N1 c1, .int .i64 (m : Nat), .pointer (some ⟨gs, 0, none⟩), .bool qa, U 13, U 14, U 15, .int .i64 e, U 17, U 18, U 19, U 20, U 21, U 22, U 23, U 24, U 25, U 26, U 27, U 28, U 29, U 30, U 31, U 32, U 33, U 34, U 35, U 36, U 37, U 38, U 39, U 40, U 41, U 42, U 43, U 44, U 45, U 46, U 47, U 48, U 49, U 50, U 51, U 52, U 53, U 54, U 55, U 56, U 57, U 58, U 59, U 60, U 61, U 62, U 63, U 64, U 65, U 66, U 67, U 68, U 69, U 70, U 71, U 72, U 73, U 74, U 75, U 76, U 77, U 78, U 79, U 80, U 81, U 82, U 83, U 84, U 85, U 86, U 87, U 88, U 89, U 90, U 91, U 92, U 93, U 94, U 95, U 96, U 97, U 98, U 99, U 100, U 101, U 102, U 103, U 104, U 105, U 106, U 107, U 108, U 109, U 110, U 111, U 112, U 113, U 114, U 115, U 116, U 117, U 118, U 119, U 120, U 121, U 122, U 123, U 124, U 125, U 126, U 127, U 128, U 129, U 130, U 131, U 132, U 133, U 134, U 135, U 136, U 137, U 138, U 139, U 140, U 141, U 142, U 143, U 144, U 145, U 146, U 147, U 148, U 149, U 150, U 151, U 152, U 153, U 154, U 155, U 156, U 157, U 158, U 159, U 160, U 161, U 162, U 163, U 164, U 165, U 166, U 167, U 168, U 169, U 170, U 171, U 172, U 173, U 174, U 175, U 176, U 177, U 178, U 179, U 180, U 181, U 182, U 183, U 184, U 185, U 186, U 187, U 188, U 189, U 190, U 191, U 192, U 193, U 194, U 195, U 196, U 197, U 198, U 199, U 200, U 201, U 202, U 203, U 204, U 205, U 206, U 207, U 208, U 209, U 210, U 211, U 212, U 213, U 214, U 215, U 216, U 217, U 218, U 219, U 220, U 221, U 222, U 223, U 224, U 225, U 226, U 227, U 228, U 229, U 230, U 231, U 232, U 233, U 234, U 235, U 236, U 237, U 238, U 239, U 240, U 241, U 242, U 243, U 244, U 245, U 246, U 247, U 248, U 249, U 250, U 251, U 252, U 253, U 254, U 255, U 256, U 257, U 258, U 259, U 260, U 261, U 262, U 263, U 264, U 265, U 266, U 267, U 268, U 269, U 270, U 271], []⟩ w := by
  have HQQ : Hid (∀ A w', Tl w0 G al la ca m A w' → Q .normal A w') := hQ
  have hn60 := hq.n60.1
  have hn1 := hq.n60.2
  obtain ⟨p, hp⟩ := rest_of AE
  have HP : Hid (Rest AE p) := hp
  have HQ : Hid (PW w0 G AE lv tr a1 N1 c1 w) := hq
  clear hQ hq hp
  subst hx
  subst hy
  subst he
  subst hqa
  have hco : Conn AE u v := conn_mid hin
  have HPE : Hid (p u = p v) := (HP.out.same u v).2 hco
  have HIN : Hid ((min u v, max u v) ∈ AE) := hin
  clear hin hco
  obtain ⟨lo, hlo⟩ : ∃ l, lv (min u v, max u v) = l := ⟨_, rfl⟩
  have HLO : Hid (lv (min u v, max u v) = lo) := hlo
  clear hlo
  obtain ⟨np, hnp⟩ : ∃ s, partsOf G.n p = s := ⟨_, rfl⟩
  have HNP : Hid (partsOf G.n p = np) := hnp
  clear hnp
  obtain ⟨sz, hsz⟩ : ∃ s, cnt G.n (fun x => decide (p x = p u)) = s := ⟨_, rfl⟩
  have HSZ : Hid (cnt G.n (fun x => decide (p x = p u)) = sz) := hsz
  clear hsz
  have HV : Hid (SG G gs what (u : Nat) (v : Nat) w) := hv
  clear hv
  conv => arg 2; whnf
  have hc := parts_of (c := c1) HQ.out.list HQ.out.len (by omega) G.n (by omega) hn60 HQ.out.gw.ok.mem.among HP.out
  go_wp2_with fail
  refine hc.mono ?_
  rintro e w1 ⟨kp, cp, rfl, hb1, -, hcp⟩
  clear hc
  have HQ1 : Hid (PW w0 G AE lv tr a1 N1 c1 w1) := HQ.out.step hb1
  have HV1 : Hid (SG G gs what (u : Nat) (v : Nat) w1) := HV.out.step hb1
  have HC1 : Hid (∀ i, i < G.n → w1.cell? ⟨kp, i, none⟩ = some (.int .i64 (p i : Nat))) := hcp
  clear hcp
  clear hb1 HQ HV
  have s1 := HV1.out.c1
  have s2 := HV1.out.c2
  have hc := has_any HQ1.out.gw.ok.mem u v hu hv2 true (by have := HIN.out; simp [this])
  go_wp2_with fail
  refine hc.mono ?_
  rintro e w2 ⟨rfl, hb2⟩
  clear hc s1 s2
  have HQ2 : Hid (PW w0 G AE lv tr a1 N1 c1 w2) := HQ1.out.step hb2
  have HV2 : Hid (SG G gs what (u : Nat) (v : Nat) w2) := HV1.out.step hb2
  have HC2 : Hid (∀ i, i < G.n → w2.cell? ⟨kp, i, none⟩ = some (.int .i64 (p i : Nat))) := fun i hi => cell_keep hb2 (HC1.out i hi)
  clear hb2 HQ1 HV1
  have hc := error_any (n := 0) ⟨Or.inl ⟨rfl, rfl⟩⟩ (h0.below HQ2.out.gw.below)
  go_wp2_with fail
  refine hc.mono ?_
  rintro e w3 ⟨rfl, hb3⟩
  clear hc
  have HQ3 : Hid (PW w0 G AE lv tr a1 N1 c1 w3) := HQ2.out.step hb3
  have HV3 : Hid (SG G gs what (u : Nat) (v : Nat) w3) := HV2.out.step hb3
  have HC3 : Hid (∀ i, i < G.n → w3.cell? ⟨kp, i, none⟩ = some (.int .i64 (p i : Nat))) := fun i hi => cell_keep hb3 (HC2.out i hi)
  clear hb3 HQ2 HV2 HC2
  have s1 := HV3.out.c1
  have s2 := HV3.out.c2
  have hc := joined_p HQ3.out.gw.ok HP.out u v hu hv2 true (by have := HPE.out; simp [this])
  go_wp2_with fail
  refine hc.mono ?_
  rintro e w4 ⟨rfl, hb4⟩
  clear hc s1 s2
  have HQ4 : Hid (PW w0 G AE lv tr a1 N1 c1 w4) := HQ3.out.step hb4
  have HV4 : Hid (SG G gs what (u : Nat) (v : Nat) w4) := HV3.out.step hb4
  have HC4 : Hid (∀ i, i < G.n → w4.cell? ⟨kp, i, none⟩ = some (.int .i64 (p i : Nat))) := fun i hi => cell_keep hb4 (HC3.out i hi)
  clear hb4 HQ3 HV3 HC3
  have hc := error_any (n := 0) ⟨Or.inl ⟨rfl, rfl⟩⟩ (h0.below HQ4.out.gw.below)
  go_wp2_with fail
  refine hc.mono ?_
  rintro e w5 ⟨rfl, hb5⟩
  clear hc
  have HQ5 : Hid (PW w0 G AE lv tr a1 N1 c1 w5) := HQ4.out.step hb5
  have HV5 : Hid (SG G gs what (u : Nat) (v : Nat) w5) := HV4.out.step hb5
  have HC5 : Hid (∀ i, i < G.n → w5.cell? ⟨kp, i, none⟩ = some (.int .i64 (p i : Nat))) := fun i hi => cell_keep hb5 (HC4.out i hi)
  clear hb5 HQ4 HV4 HC4
  have P1 := HC5.out u hu
  have P2 := HC5.out v hv2
  have i0 : (0 : Int) ≤ (u : Int) := by omega
  have i1 : (u : Int) < (G.n : Int) := by omega
  have i2 : (0 : Int) ≤ (v : Int) := by omega
  have i3 : (v : Int) < (G.n : Int) := by omega
  obtain ⟨pu, hpu⟩ : ∃ q, p u = q := ⟨_, rfl⟩
  obtain ⟨pv, hpv⟩ : ∃ q, p v = q := ⟨_, rfl⟩
  rw [hpu] at P1
  rw [hpv] at P2
  have t1 : (pu == pv) = true := by have hpe := HPE.out; rw [← hpu, ← hpv]; simp [hpe]
  have t2 : ((pu : Int) == (pv : Int)) = true := by rw [← hpu, ← hpv, HPE.out]; simp
  clear hpu hpv
  have hd6 : Below w5.heap.size w5 w5.drew := (Below.refl _ _).drew
  have hpl : Calls Tryz.prog 10 #[.slice a1 N1 c1, .int .i64 (u : Nat), .int .i64 (v : Nat)] w5.drew fun e w' => ∃ j : Nat, e = .returned (.int .i64 (j : Nat)) ∧ (w'.cell? ⟨gs, 1, none⟩ = some (.int .i64 (u : Nat)) ∧ w'.cell? ⟨gs, 2, none⟩ = some (.int .i64 (v : Nat)) ∧ w'.cell? ⟨kp, u, none⟩ = some (.int .i64 (pu : Nat)) ∧ w'.cell? ⟨kp, v, none⟩ = some (.int .i64 (pv : Nat))) ∧ Hid (Below w5.heap.size w5 w') := by
    refine (place_in (HQ5.out.step hd6) (by omega) u v HIN.out).mono ?_
    rintro e w' ⟨j, rfl, hb⟩
    have hb2 := below_step hd6 hb
    exact ⟨j, rfl, ⟨cell_keep hb2 HV5.out.c1, cell_keep hb2 HV5.out.c2, cell_keep hb2 P1, cell_keep hb2 P2⟩, hb2⟩
  clear hd6
  have j0 : ∀ j : Nat, (0 : Int) ≤ (j : Int) := by intro j; omega
  have s1 := HV5.out.c1
  have s2 := HV5.out.c2
  go_wp2_with fail
  go_region_held3 (fun V => V.cell? ⟨gs, 1, none⟩ = some (.int .i64 (u : Nat)) ∧ V.cell? ⟨gs, 2, none⟩ = some (.int .i64 (v : Nat)) ∧ V.cell? ⟨kp, u, none⟩ = some (.int .i64 (pu : Nat)) ∧ V.cell? ⟨kp, v, none⟩ = some (.int .i64 (pv : Nat))) (first | (go_keep; done) | exact ⟨s1, s2, P1, P2⟩ | exact hS)
    (first
      | (go_at_call 10; refine hpl.mono ?_; rintro e w6 ⟨j, rfl, hS, HB⟩))
  have hb6 : Below w5.heap.size w5 w6 := HB.out
  clear HB hS hpl s1 s2 P1 P2 t1 t2
  have HQ6 : Hid (PW w0 G AE lv tr a1 N1 c1 w6) := HQ5.out.step hb6
  have HV6 : Hid (SG G gs what (u : Nat) (v : Nat) w6) := HV5.out.step hb6
  have HC6 : Hid (∀ i, i < G.n → w6.cell? ⟨kp, i, none⟩ = some (.int .i64 (p i : Nat))) := fun i hi => cell_keep hb6 (HC5.out i hi)
  clear hb6 HQ5 HV5 HC5
  have s1 := HV6.out.c1
  have s2 := HV6.out.c2
  have hc := sizeOf_any (cap := cp) HC6.out hn60 u hu sz HSZ.out
  go_wp2_with fail
  refine hc.mono ?_
  rintro e w7 ⟨rfl, hb7⟩
  clear hc s1 s2
  have HQ7 : Hid (PW w0 G AE lv tr a1 N1 c1 w7) := HQ6.out.step hb7
  have HV7 : Hid (SG G gs what (u : Nat) (v : Nat) w7) := HV6.out.step hb7
  have HC7 : Hid (∀ i, i < G.n → w7.cell? ⟨kp, i, none⟩ = some (.int .i64 (p i : Nat))) := fun i hi => cell_keep hb7 (HC6.out i hi)
  clear hb7 HQ6 HV6 HC6
  have s1 := HV7.out.c1
  have s2 := HV7.out.c2
  have hc := size_p HQ7.out.gw.ok HP.out u hu sz HSZ.out
  go_wp2_with fail
  refine hc.mono ?_
  rintro e w8 ⟨rfl, hb8⟩
  clear hc s1 s2
  have HQ8 : Hid (PW w0 G AE lv tr a1 N1 c1 w8) := HQ7.out.step hb8
  have HV8 : Hid (SG G gs what (u : Nat) (v : Nat) w8) := HV7.out.step hb8
  have HC8 : Hid (∀ i, i < G.n → w8.cell? ⟨kp, i, none⟩ = some (.int .i64 (p i : Nat))) := fun i hi => cell_keep hb8 (HC7.out i hi)
  clear hb8 HQ7 HV7 HC7
  have hc := error_any (n := 0) ⟨Or.inl ⟨rfl, rfl⟩⟩ (h0.below HQ8.out.gw.below)
  go_wp2_with fail
  refine hc.mono ?_
  rintro e w9 ⟨rfl, hb9⟩
  clear hc
  have HQ9 : Hid (PW w0 G AE lv tr a1 N1 c1 w9) := HQ8.out.step hb9
  have HV9 : Hid (SG G gs what (u : Nat) (v : Nat) w9) := HV8.out.step hb9
  have HC9 : Hid (∀ i, i < G.n → w9.cell? ⟨kp, i, none⟩ = some (.int .i64 (p i : Nat))) := fun i hi => cell_keep hb9 (HC8.out i hi)
  clear hb9 HQ8 HV8 HC8
  have hc := gedges_any HQ9.out.gw.ok N1 HQ9.out.len
  go_wp2_with fail
  refine hc.mono ?_
  rintro e w10 ⟨ad, ce, rfl, hb10, hE, -, -, -⟩
  clear hc
  have HQ10 : Hid (PW w0 G AE lv tr a1 N1 c1 w10) := HQ9.out.step hb10
  have HV10 : Hid (SG G gs what (u : Nat) (v : Nat) w10) := HV9.out.step hb10
  have HC10 : Hid (∀ i, i < G.n → w10.cell? ⟨kp, i, none⟩ = some (.int .i64 (p i : Nat))) := fun i hi => cell_keep hb10 (HC9.out i hi)
  clear hb10 HQ9 HV9 HC9
  have hc := edges_same (cap := ce) (cap' := c1) HQ10.out.len hE HQ10.out.list (by omega)
  go_wp2_with fail
  refine hc.mono ?_
  rintro e w11 ⟨rfl, hb11⟩
  clear hc hE
  have HQ11 : Hid (PW w0 G AE lv tr a1 N1 c1 w11) := HQ10.out.step hb11
  have HV11 : Hid (SG G gs what (u : Nat) (v : Nat) w11) := HV10.out.step hb11
  have HC11 : Hid (∀ i, i < G.n → w11.cell? ⟨kp, i, none⟩ = some (.int .i64 (p i : Nat))) := fun i hi => cell_keep hb11 (HC10.out i hi)
  clear hb11 HQ10 HV10 HC10
  have hc := parts_p HQ11.out.gw.ok HP.out np HNP.out
  go_wp2_with fail
  refine hc.mono ?_
  rintro e w12 ⟨rfl, hb12⟩
  clear hc
  have HQ12 : Hid (PW w0 G AE lv tr a1 N1 c1 w12) := HQ11.out.step hb12
  have HV12 : Hid (SG G gs what (u : Nat) (v : Nat) w12) := HV11.out.step hb12
  have HC12 : Hid (∀ i, i < G.n → w12.cell? ⟨kp, i, none⟩ = some (.int .i64 (p i : Nat))) := fun i hi => cell_keep hb12 (HC11.out i hi)
  clear hb12 HQ11 HV11 HC11
  have hc := count_any (cap := cp) HC12.out hn60 np HNP.out
  go_wp2_with fail
  refine hc.mono ?_
  rintro e w13 ⟨rfl, hb13⟩
  clear hc
  have HQ13 : Hid (PW w0 G AE lv tr a1 N1 c1 w13) := HQ12.out.step hb13
  have HV13 : Hid (SG G gs what (u : Nat) (v : Nat) w13) := HV12.out.step hb13
  have HC13 : Hid (∀ i, i < G.n → w13.cell? ⟨kp, i, none⟩ = some (.int .i64 (p i : Nat))) := fun i hi => cell_keep hb13 (HC12.out i hi)
  clear hb13 HQ12 HV12 HC12
  have s1 := HV13.out.c1
  have s2 := HV13.out.c2
  have hc := level_any HQ13.out.gw.ok.mem u v hu hv2 HIN.out lo HLO.out
  go_wp2_with fail
  refine hc.mono ?_
  rintro e w14 ⟨rfl, hb14⟩
  clear hc s1 s2
  have HQ14 : Hid (PW w0 G AE lv tr a1 N1 c1 w14) := HQ13.out.step hb14
  have HV14 : Hid (SG G gs what (u : Nat) (v : Nat) w14) := HV13.out.step hb14
  have HC14 : Hid (∀ i, i < G.n → w14.cell? ⟨kp, i, none⟩ = some (.int .i64 (p i : Nat))) := fun i hi => cell_keep hb14 (HC13.out i hi)
  clear hb14 HQ13 HV13 HC13
  have s1 := HV14.out.c1
  have s2 := HV14.out.c2
  have hc := place_in HQ14.out (by omega) u v HIN.out
  go_wp2_with fail
  refine hc.mono ?_
  rintro e w15 ⟨j2, rfl, hb15⟩
  clear hc s1 s2
  have HQ15 : Hid (PW w0 G AE lv tr a1 N1 c1 w15) := HQ14.out.step hb15
  have HV15 : Hid (SG G gs what (u : Nat) (v : Nat) w15) := HV14.out.step hb15
  have HC15 : Hid (∀ i, i < G.n → w15.cell? ⟨kp, i, none⟩ = some (.int .i64 (p i : Nat))) := fun i hi => cell_keep hb15 (HC14.out i hi)
  clear hb15 HQ14 HV14 HC14
  have j4 : (0 : Int) ≤ (j2 : Int) := by omega
  have j3 : ¬ ((j2 : Int) < 0) := by omega
  have hc := error_any (n := 0) ⟨Or.inl ⟨rfl, rfl⟩⟩ (h0.below HQ15.out.gw.below)
  go_wp2_with fail
  refine hc.mono ?_
  rintro e w16 ⟨rfl, hb16⟩
  clear hc
  have HQ16 : Hid (PW w0 G AE lv tr a1 N1 c1 w16) := HQ15.out.step hb16
  have HV16 : Hid (SG G gs what (u : Nat) (v : Nat) w16) := HV15.out.step hb16
  have HC16 : Hid (∀ i, i < G.n → w16.cell? ⟨kp, i, none⟩ = some (.int .i64 (p i : Nat))) := fun i hi => cell_keep hb16 (HC15.out i hi)
  clear hb16 HQ15 HV15 HC15
  go_wp2_with fail
  exact HQQ.out _ _ (tl_intro HQ16.out hNm rfl)


end Go.Proofs.YtcebfloeikjjcaaGreatDoor.Gr
