/-
  GraphPlays, a step that adds what may not be added.
-/
import Derived.Test.YtcebfloeikjjcaaGreatDoorGp3
import Derived.Deep.DeepCutAuto
import Derived.Deep.CutBlock
namespace Go.Proofs.YtcebfloeikjjcaaGreatDoor.Gr
open Go.RowKit Go.Deep Go.Maps
open Go.RowKit (Below)
set_option linter.unusedVariables false

set_option maxRecDepth 1000000 in
set_option maxHeartbeats 4000000 in
theorem ad_no {w0 w : World} {G : GPl} {AE : List (Nat × Nat)} {lv : Nat × Nat → Nat} {tr : Nat × Nat → Bool} {a al : Option Addr} {N c la ca m gs : Nat} {qa qb : Bool} {what x y e k : Int} {U : Nat → Value} (h0 : ErrType w0) (hq : PW w0 G AE lv tr a N c w) (hN : N < 60) (hv : SG G gs what x y w)
    (hw : what = 0 ∨ what = 1 ∨ what = 2) (hr : ¬ ((0 ≤ x ∧ x < G.n) ∧ 0 ≤ y ∧ y < G.n)) (he : e = 1) :
    ((Tryz.f4.body.bind (blockOf 2)).getD .skip).wp Tryz.prog (fun ex A w' => ex = .normal ∧ Aft w0 G al la ca m N gs qa what x y e A w') ⟨#[.int .i64 (G.n : Nat), .slice al la ca, U 2, U 3, U 4, U 5, .pointer (some ⟨G.g, 0, none⟩), U 7, U 8, .slice a N c, .int .i64 (m : Nat), .pointer (some ⟨gs, 0, none⟩), .bool qa, .bool qb, .int .i64 k, .int .i64 e, .int .i64 e, U 17, U 18, U 19, U 20, U 21, U 22, U 23, U 24, U 25, U 26, U 27, U 28, U 29, U 30, U 31, U 32, U 33, U 34, U 35, U 36, U 37, U 38, U 39, U 40, U 41, U 42, U 43, U 44, U 45, U 46, U 47, U 48, U 49, U 50, U 51, U 52, U 53, U 54, U 55, U 56, U 57, U 58, U 59, U 60, U 61, U 62, U 63, U 64, U 65, U 66, U 67, U 68, U 69, U 70, U 71, U 72, U 73, U 74, U 75, U 76, U 77, U 78, .int .i64 what, U 80, U 81, U 82, U 83, U 84, U 85, U 86, U 87, U 88, U 89, U 90, U 91, U 92, U 93, U 94, U 95, U 96, U 97, U 98, U 99, U 100, U 101, U 102, U 103, U 104, U 105, U 106, U 107, U 108, U 109, U 110, U 111, U 112, U 113, U 114, U 115, U 116, U 117, U 118, U 119, U 120, U 121, U 122, U 123, U 124, U 125, U 126, U 127, U 128, U 129, U 130, U 131, U 132, U 133, U 134, U 135, U 136, U 137, U 138, U 139, U 140, U 141, U 142, U 143, U 144, U 145, U 146, U 147, U 148, U 149, U 150, U 151, U 152, U 153, U 154, U 155, U 156, U 157, U 158, U 159, U 160, U 161, U 162, U 163, U 164, U 165, U 166, U 167, U 168, U 169, U 170, U 171, U 172, U 173, U 174, U 175, U 176, U 177, U 178, U 179, U 180, U 181, U 182, U 183, U 184, U 185, U 186, U 187, U 188, U 189, U 190, U 191, U 192, U 193, U 194, U 195, U 196, U 197, U 198, U 199, U 200, U 201, U 202, U 203, U 204, U 205, U 206, U 207, U 208, U 209, U 210, U 211, U 212, U 213, U 214, U 215, U 216, U 217, U 218, U 219, U 220, U 221, U 222, U 223, U 224, U 225, U 226, U 227, U 228, U 229, U 230, U 231, U 232, U 233, U 234, U 235, U 236, U 237, U 238, U 239, U 240, U 241, U 242, U 243, U 244, U 245, U 246, U 247, U 248, U 249, U 250, U 251, U 252, U 253, U 254, U 255, U 256, U 257, U 258, U 259, U 260, U 261, U 262, U 263, U 264, U 265, U 266, U 267, U 268, U 269, U 270, U 271], []⟩ w := by
  subst he
  rcases hw with rfl | rfl | rfl
  all_goals
    have HQ0 : Hid (PW w0 G AE lv tr a N c w) := hq
    have HV0 : Hid (SG G gs _ x y w) := hv
    have s0 := hv.c0
    have s1 := hv.c1
    have s2 := hv.c2
    clear hq hv
    conv => arg 2; whnf
    have HQ : Hid (PW w0 G AE lv tr a N c w) := HQ0.out
    have HV : Hid (SG G gs _ x y w) := HV0.out
    have hc := add_no HQ.out.gw.ok x y hr
    go_wp2_with fail
    refine hc.mono ?_
    rintro e w1 ⟨rfl, hb1⟩
    have HQ1 : Hid (PW w0 G AE lv tr a N c w1) := HQ.out.step hb1
    have HV1 := HV.out.step hb1
    clear hc hb1 s0 s1 s2
    go_wp2_with fail
    refine (error_any (n := 1) ⟨Or.inr rfl⟩ (h0.below HQ1.out.gw.below)).mono ?_
    rintro e w2 ⟨rfl, hb2⟩
    have HQ2 : Hid (PW w0 G AE lv tr a N c w2) := HQ1.out.step hb2
    have HV2 := HV1.step hb2
    clear hb2
    go_wp2_with fail
    exact aft_intro HQ2.out (by omega) HV2 rfl

set_option maxRecDepth 1000000 in
set_option maxHeartbeats 4000000 in
theorem ad_shape {w0 w : World} {G : GPl} {AE : List (Nat × Nat)} {lv : Nat × Nat → Nat} {tr : Nat × Nat → Bool} {a al : Option Addr} {N c la ca m gs : Nat} {qa qb : Bool} {what x y e k : Int} {U : Nat → Value} (h0 : ErrType w0) (hq : PW w0 G AE lv tr a N c w) (hN : N < 60) (hv : SG G gs what x y w)
    (hw : what = 0 ∨ what = 1 ∨ what = 2) {u v : Nat} (hx : x = (u : Nat)) (hy : y = (v : Nat)) (hu : u < G.n) (hv2 : v < G.n) (he : e = 0) (hne : u = v) :
    ((Tryz.f4.body.bind (blockOf 2)).getD .skip).wp Tryz.prog (fun ex A w' => ex = .normal ∧ Aft w0 G al la ca m N gs qa what x y e A w') ⟨#[.int .i64 (G.n : Nat), .slice al la ca, U 2, U 3, U 4, U 5, .pointer (some ⟨G.g, 0, none⟩), U 7, U 8, .slice a N c, .int .i64 (m : Nat), .pointer (some ⟨gs, 0, none⟩), .bool qa, .bool qb, .int .i64 k, .int .i64 e, .int .i64 e, U 17, U 18, U 19, U 20, U 21, U 22, U 23, U 24, U 25, U 26, U 27, U 28, U 29, U 30, U 31, U 32, U 33, U 34, U 35, U 36, U 37, U 38, U 39, U 40, U 41, U 42, U 43, U 44, U 45, U 46, U 47, U 48, U 49, U 50, U 51, U 52, U 53, U 54, U 55, U 56, U 57, U 58, U 59, U 60, U 61, U 62, U 63, U 64, U 65, U 66, U 67, U 68, U 69, U 70, U 71, U 72, U 73, U 74, U 75, U 76, U 77, U 78, .int .i64 what, U 80, U 81, U 82, U 83, U 84, U 85, U 86, U 87, U 88, U 89, U 90, U 91, U 92, U 93, U 94, U 95, U 96, U 97, U 98, U 99, U 100, U 101, U 102, U 103, U 104, U 105, U 106, U 107, U 108, U 109, U 110, U 111, U 112, U 113, U 114, U 115, U 116, U 117, U 118, U 119, U 120, U 121, U 122, U 123, U 124, U 125, U 126, U 127, U 128, U 129, U 130, U 131, U 132, U 133, U 134, U 135, U 136, U 137, U 138, U 139, U 140, U 141, U 142, U 143, U 144, U 145, U 146, U 147, U 148, U 149, U 150, U 151, U 152, U 153, U 154, U 155, U 156, U 157, U 158, U 159, U 160, U 161, U 162, U 163, U 164, U 165, U 166, U 167, U 168, U 169, U 170, U 171, U 172, U 173, U 174, U 175, U 176, U 177, U 178, U 179, U 180, U 181, U 182, U 183, U 184, U 185, U 186, U 187, U 188, U 189, U 190, U 191, U 192, U 193, U 194, U 195, U 196, U 197, U 198, U 199, U 200, U 201, U 202, U 203, U 204, U 205, U 206, U 207, U 208, U 209, U 210, U 211, U 212, U 213, U 214, U 215, U 216, U 217, U 218, U 219, U 220, U 221, U 222, U 223, U 224, U 225, U 226, U 227, U 228, U 229, U 230, U 231, U 232, U 233, U 234, U 235, U 236, U 237, U 238, U 239, U 240, U 241, U 242, U 243, U 244, U 245, U 246, U 247, U 248, U 249, U 250, U 251, U 252, U 253, U 254, U 255, U 256, U 257, U 258, U 259, U 260, U 261, U 262, U 263, U 264, U 265, U 266, U 267, U 268, U 269, U 270, U 271], []⟩ w := by
  subst hx
  subst hy
  subst he
  subst hne
  rcases hw with rfl | rfl | rfl
  all_goals
    have HQ0 : Hid (PW w0 G AE lv tr a N c w) := hq
    have HV0 : Hid (SG G gs _ (u : Nat) (u : Nat) w) := hv
    have s0 := hv.c0
    have s1 := hv.c1
    have s2 := hv.c2
    clear hq hv
    have t1 : ((u : Int) == (u : Int)) = true := by simp
    conv => arg 2; whnf
    have HQ : Hid (PW w0 G AE lv tr a N c w) := HQ0.out
    have HV : Hid (SG G gs _ (u : Nat) (u : Nat) w) := HV0.out
    have hc := add_shape HQ.out.gw.ok u hu
    go_wp2_with fail
    refine hc.mono ?_
    rintro e w1 ⟨rfl, hb1⟩
    have HQ1 : Hid (PW w0 G AE lv tr a N c w1) := HQ.out.step hb1
    have HV1 := HV.out.step hb1
    clear hc hb1 s0 s1 s2
    go_wp2_with fail
    refine (error_any (n := 2) ⟨Or.inr rfl⟩ (h0.below HQ1.out.gw.below)).mono ?_
    rintro e w2 ⟨rfl, hb2⟩
    have HQ2 : Hid (PW w0 G AE lv tr a N c w2) := HQ1.out.step hb2
    have HV2 := HV1.step hb2
    clear hb2
    go_wp2_with fail
    exact aft_intro HQ2.out (by omega) HV2 rfl

set_option maxRecDepth 1000000 in
set_option maxHeartbeats 4000000 in
theorem ad_clash {w0 w : World} {G : GPl} {AE : List (Nat × Nat)} {lv : Nat × Nat → Nat} {tr : Nat × Nat → Bool} {a al : Option Addr} {N c la ca m gs : Nat} {qa qb : Bool} {what x y e k : Int} {U : Nat → Value} (h0 : ErrType w0) (hq : PW w0 G AE lv tr a N c w) (hN : N < 60) (hv : SG G gs what x y w)
    (hw : what = 0 ∨ what = 1 ∨ what = 2) {u v : Nat} (hx : x = (u : Nat)) (hy : y = (v : Nat)) (hu : u < G.n) (hv2 : v < G.n) (he : e = 0) (hne : u ≠ v) {j : Nat} (hk : k = (j : Nat)) (hin : (min u v, max u v) ∈ AE) :
    ((Tryz.f4.body.bind (blockOf 2)).getD .skip).wp Tryz.prog (fun ex A w' => ex = .normal ∧ Aft w0 G al la ca m N gs qa what x y e A w') ⟨#[.int .i64 (G.n : Nat), .slice al la ca, U 2, U 3, U 4, U 5, .pointer (some ⟨G.g, 0, none⟩), U 7, U 8, .slice a N c, .int .i64 (m : Nat), .pointer (some ⟨gs, 0, none⟩), .bool qa, .bool qb, .int .i64 k, .int .i64 e, .int .i64 e, U 17, U 18, U 19, U 20, U 21, U 22, U 23, U 24, U 25, U 26, U 27, U 28, U 29, U 30, U 31, U 32, U 33, U 34, U 35, U 36, U 37, U 38, U 39, U 40, U 41, U 42, U 43, U 44, U 45, U 46, U 47, U 48, U 49, U 50, U 51, U 52, U 53, U 54, U 55, U 56, U 57, U 58, U 59, U 60, U 61, U 62, U 63, U 64, U 65, U 66, U 67, U 68, U 69, U 70, U 71, U 72, U 73, U 74, U 75, U 76, U 77, U 78, .int .i64 what, U 80, U 81, U 82, U 83, U 84, U 85, U 86, U 87, U 88, U 89, U 90, U 91, U 92, U 93, U 94, U 95, U 96, U 97, U 98, U 99, U 100, U 101, U 102, U 103, U 104, U 105, U 106, U 107, U 108, U 109, U 110, U 111, U 112, U 113, U 114, U 115, U 116, U 117, U 118, U 119, U 120, U 121, U 122, U 123, U 124, U 125, U 126, U 127, U 128, U 129, U 130, U 131, U 132, U 133, U 134, U 135, U 136, U 137, U 138, U 139, U 140, U 141, U 142, U 143, U 144, U 145, U 146, U 147, U 148, U 149, U 150, U 151, U 152, U 153, U 154, U 155, U 156, U 157, U 158, U 159, U 160, U 161, U 162, U 163, U 164, U 165, U 166, U 167, U 168, U 169, U 170, U 171, U 172, U 173, U 174, U 175, U 176, U 177, U 178, U 179, U 180, U 181, U 182, U 183, U 184, U 185, U 186, U 187, U 188, U 189, U 190, U 191, U 192, U 193, U 194, U 195, U 196, U 197, U 198, U 199, U 200, U 201, U 202, U 203, U 204, U 205, U 206, U 207, U 208, U 209, U 210, U 211, U 212, U 213, U 214, U 215, U 216, U 217, U 218, U 219, U 220, U 221, U 222, U 223, U 224, U 225, U 226, U 227, U 228, U 229, U 230, U 231, U 232, U 233, U 234, U 235, U 236, U 237, U 238, U 239, U 240, U 241, U 242, U 243, U 244, U 245, U 246, U 247, U 248, U 249, U 250, U 251, U 252, U 253, U 254, U 255, U 256, U 257, U 258, U 259, U 260, U 261, U 262, U 263, U 264, U 265, U 266, U 267, U 268, U 269, U 270, U 271], []⟩ w := by
  subst hx
  subst hy
  subst he
  subst hk
  rcases hw with rfl | rfl | rfl
  all_goals
    have HQ0 : Hid (PW w0 G AE lv tr a N c w) := hq
    have HV0 : Hid (SG G gs _ (u : Nat) (v : Nat) w) := hv
    have s0 := hv.c0
    have s1 := hv.c1
    have s2 := hv.c2
    clear hq hv
    have t1 : ((u : Int) == (v : Int)) = false := by rw [beq_eq_false_iff_ne]; omega
    have t2 : (u == v) = false := by rw [beq_eq_false_iff_ne]; exact hne
    have t6 : (0 : Int) ≤ (j : Int) := by omega
    have t7 : ¬ ((j : Int) < 0) := by omega
    conv => arg 2; whnf
    have HQ : Hid (PW w0 G AE lv tr a N c w) := HQ0.out
    have HV : Hid (SG G gs _ (u : Nat) (v : Nat) w) := HV0.out
    have hc := add_clash HQ.out.gw.ok u v hu hv2 hne hin
    go_wp2_with fail
    refine hc.mono ?_
    rintro e w1 ⟨rfl, hb1⟩
    have HQ1 : Hid (PW w0 G AE lv tr a N c w1) := HQ.out.step hb1
    have HV1 := HV.out.step hb1
    clear hc hb1 s0 s1 s2
    go_wp2_with fail
    refine (error_any (n := 6) ⟨Or.inr rfl⟩ (h0.below HQ1.out.gw.below)).mono ?_
    rintro e w2 ⟨rfl, hb2⟩
    have HQ2 : Hid (PW w0 G AE lv tr a N c w2) := HQ1.out.step hb2
    have HV2 := HV1.step hb2
    clear hb2
    go_wp2_with fail
    exact aft_intro HQ2.out (by omega) HV2 rfl


end Go.Proofs.YtcebfloeikjjcaaGreatDoor.Gr
