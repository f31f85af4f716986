/-
  GraphPlays: a round, and all rounds.
-/
import Derived.Test.YtcebfloeikjjcaaGreatDoorGp7
import Derived.Deep.DeepCutAuto
import Derived.Deep.CutBlock
namespace Go.Proofs.YtcebfloeikjjcaaGreatDoor.Gr
open Go.RowKit Go.Deep Go.Maps
open Go.RowKit (Below)
set_option linter.unusedVariables false


set_option maxRecDepth 1000000 in
/-- Where the loop stands. -/
def gpI (w0 : World) (G : GPl) (al : Option Addr) (la ca : Nat) (m : Nat) (A : Act) (w : World) : Prop :=
  ∃ (U : Nat → Value) (AE : List (Nat × Nat)) (lv : Nat × Nat → Nat) (tr : Nat × Nat → Bool) (a : Option Addr) (N c : Nat), m ≤ min la 60 ∧ (PW w0 G AE lv tr a N c w ∧ N ≤ m) ∧ A = ⟨#[.int .i64 (G.n : Nat), .slice al la ca, U 2, U 3, U 4, U 5, .pointer (some ⟨G.g, 0, none⟩), U 7, U 8, .slice a N c, .int .i64 (m : Nat), U 11, U 12, U 13, U 14, U 15, U 16, U 17, U 18, U 19, U 20, U 21, U 22, U 23, U 24, U 25, U 26, U 27, U 28, U 29, U 30, U 31, U 32, U 33, U 34, U 35, U 36, U 37, U 38, U 39, U 40, U 41, U 42, U 43, U 44, U 45, U 46, U 47, U 48, U 49, U 50, U 51, U 52, U 53, U 54, U 55, U 56, U 57, U 58, U 59, U 60, U 61, U 62, U 63, U 64, U 65, U 66, U 67, U 68, U 69, U 70, U 71, U 72, U 73, U 74, U 75, U 76, U 77, U 78, U 79, U 80, U 81, U 82, U 83, U 84, U 85, U 86, U 87, U 88, U 89, U 90, U 91, U 92, U 93, U 94, U 95, U 96, U 97, U 98, U 99, U 100, U 101, U 102, U 103, U 104, U 105, U 106, U 107, U 108, U 109, U 110, U 111, U 112, U 113, U 114, U 115, U 116, U 117, U 118, U 119, U 120, U 121, U 122, U 123, U 124, U 125, U 126, U 127, U 128, U 129, U 130, U 131, U 132, U 133, U 134, U 135, U 136, U 137, U 138, U 139, U 140, U 141, U 142, U 143, U 144, U 145, U 146, U 147, U 148, U 149, U 150, U 151, U 152, U 153, U 154, U 155, U 156, U 157, U 158, U 159, U 160, U 161, U 162, U 163, U 164, U 165, U 166, U 167, U 168, U 169, U 170, U 171, U 172, U 173, U 174, U 175, U 176, U 177, U 178, U 179, U 180, U 181, U 182, U 183, U 184, U 185, U 186, U 187, U 188, U 189, U 190, U 191, U 192, U 193, U 194, U 195, U 196, U 197, U 198, U 199, U 200, U 201, U 202, U 203, U 204, U 205, U 206, U 207, U 208, U 209, U 210, U 211, U 212, U 213, U 214, U 215, U 216, U 217, U 218, U 219, U 220, U 221, U 222, U 223, U 224, U 225, U 226, U 227, U 228, U 229, U 230, U 231, U 232, U 233, U 234, U 235, U 236, U 237, U 238, U 239, U 240, U 241, U 242, U 243, U 244, U 245, U 246, U 247, U 248, U 249, U 250, U 251, U 252, U 253, U 254, U 255, U 256, U 257, U 258, U 259, U 260, U 261, U 262, U 263, U 264, U 265, U 266, U 267, U 268, U 269, U 270, U 271], []⟩

set_option maxRecDepth 1000000 in
theorem gp_intro {w0 : World} {G : GPl} {al : Option Addr} {la ca : Nat} {m : Nat} {A : Act} {w : World} (AE : List (Nat × Nat)) (lv : Nat × Nat → Nat) (tr : Nat × Nat → Bool) (a : Option Addr) (N c : Nat) (h1 : m ≤ min la 60) (hf : (PW w0 G AE lv tr a N c w ∧ N ≤ m)) (h : A = ⟨#[.int .i64 (G.n : Nat), .slice al la ca, A.tmps.getD 2 undef, A.tmps.getD 3 undef, A.tmps.getD 4 undef, A.tmps.getD 5 undef, .pointer (some ⟨G.g, 0, none⟩), A.tmps.getD 7 undef, A.tmps.getD 8 undef, .slice a N c, .int .i64 (m : Nat), A.tmps.getD 11 undef, A.tmps.getD 12 undef, A.tmps.getD 13 undef, A.tmps.getD 14 undef, A.tmps.getD 15 undef, A.tmps.getD 16 undef, A.tmps.getD 17 undef, A.tmps.getD 18 undef, A.tmps.getD 19 undef, A.tmps.getD 20 undef, A.tmps.getD 21 undef, A.tmps.getD 22 undef, A.tmps.getD 23 undef, A.tmps.getD 24 undef, A.tmps.getD 25 undef, A.tmps.getD 26 undef, A.tmps.getD 27 undef, A.tmps.getD 28 undef, A.tmps.getD 29 undef, A.tmps.getD 30 undef, A.tmps.getD 31 undef, A.tmps.getD 32 undef, A.tmps.getD 33 undef, A.tmps.getD 34 undef, A.tmps.getD 35 undef, A.tmps.getD 36 undef, A.tmps.getD 37 undef, A.tmps.getD 38 undef, A.tmps.getD 39 undef, A.tmps.getD 40 undef, A.tmps.getD 41 undef, A.tmps.getD 42 undef, A.tmps.getD 43 undef, A.tmps.getD 44 undef, A.tmps.getD 45 undef, A.tmps.getD 46 undef, A.tmps.getD 47 undef, A.tmps.getD 48 undef, A.tmps.getD 49 undef, A.tmps.getD 50 undef, A.tmps.getD 51 undef, A.tmps.getD 52 undef, A.tmps.getD 53 undef, A.tmps.getD 54 undef, A.tmps.getD 55 undef, A.tmps.getD 56 undef, A.tmps.getD 57 undef, A.tmps.getD 58 undef, A.tmps.getD 59 undef, A.tmps.getD 60 undef, A.tmps.getD 61 undef, A.tmps.getD 62 undef, A.tmps.getD 63 undef, A.tmps.getD 64 undef, A.tmps.getD 65 undef, A.tmps.getD 66 undef, A.tmps.getD 67 undef, A.tmps.getD 68 undef, A.tmps.getD 69 undef, A.tmps.getD 70 undef, A.tmps.getD 71 undef, A.tmps.getD 72 undef, A.tmps.getD 73 undef, A.tmps.getD 74 undef, A.tmps.getD 75 undef, A.tmps.getD 76 undef, A.tmps.getD 77 undef, A.tmps.getD 78 undef, A.tmps.getD 79 undef, A.tmps.getD 80 undef, A.tmps.getD 81 undef, A.tmps.getD 82 undef, A.tmps.getD 83 undef, A.tmps.getD 84 undef, A.tmps.getD 85 undef, A.tmps.getD 86 undef, A.tmps.getD 87 undef, A.tmps.getD 88 undef, A.tmps.getD 89 undef, A.tmps.getD 90 undef, A.tmps.getD 91 undef, A.tmps.getD 92 undef, A.tmps.getD 93 undef, A.tmps.getD 94 undef, A.tmps.getD 95 undef, A.tmps.getD 96 undef, A.tmps.getD 97 undef, A.tmps.getD 98 undef, A.tmps.getD 99 undef, A.tmps.getD 100 undef, A.tmps.getD 101 undef, A.tmps.getD 102 undef, A.tmps.getD 103 undef, A.tmps.getD 104 undef, A.tmps.getD 105 undef, A.tmps.getD 106 undef, A.tmps.getD 107 undef, A.tmps.getD 108 undef, A.tmps.getD 109 undef, A.tmps.getD 110 undef, A.tmps.getD 111 undef, A.tmps.getD 112 undef, A.tmps.getD 113 undef, A.tmps.getD 114 undef, A.tmps.getD 115 undef, A.tmps.getD 116 undef, A.tmps.getD 117 undef, A.tmps.getD 118 undef, A.tmps.getD 119 undef, A.tmps.getD 120 undef, A.tmps.getD 121 undef, A.tmps.getD 122 undef, A.tmps.getD 123 undef, A.tmps.getD 124 undef, A.tmps.getD 125 undef, A.tmps.getD 126 undef, A.tmps.getD 127 undef, A.tmps.getD 128 undef, A.tmps.getD 129 undef, A.tmps.getD 130 undef, A.tmps.getD 131 undef, A.tmps.getD 132 undef, A.tmps.getD 133 undef, A.tmps.getD 134 undef, A.tmps.getD 135 undef, A.tmps.getD 136 undef, A.tmps.getD 137 undef, A.tmps.getD 138 undef, A.tmps.getD 139 undef, A.tmps.getD 140 undef, A.tmps.getD 141 undef, A.tmps.getD 142 undef, A.tmps.getD 143 undef, A.tmps.getD 144 undef, A.tmps.getD 145 undef, A.tmps.getD 146 undef, A.tmps.getD 147 undef, A.tmps.getD 148 undef, A.tmps.getD 149 undef, A.tmps.getD 150 undef, A.tmps.getD 151 undef, A.tmps.getD 152 undef, A.tmps.getD 153 undef, A.tmps.getD 154 undef, A.tmps.getD 155 undef, A.tmps.getD 156 undef, A.tmps.getD 157 undef, A.tmps.getD 158 undef, A.tmps.getD 159 undef, A.tmps.getD 160 undef, A.tmps.getD 161 undef, A.tmps.getD 162 undef, A.tmps.getD 163 undef, A.tmps.getD 164 undef, A.tmps.getD 165 undef, A.tmps.getD 166 undef, A.tmps.getD 167 undef, A.tmps.getD 168 undef, A.tmps.getD 169 undef, A.tmps.getD 170 undef, A.tmps.getD 171 undef, A.tmps.getD 172 undef, A.tmps.getD 173 undef, A.tmps.getD 174 undef, A.tmps.getD 175 undef, A.tmps.getD 176 undef, A.tmps.getD 177 undef, A.tmps.getD 178 undef, A.tmps.getD 179 undef, A.tmps.getD 180 undef, A.tmps.getD 181 undef, A.tmps.getD 182 undef, A.tmps.getD 183 undef, A.tmps.getD 184 undef, A.tmps.getD 185 undef, A.tmps.getD 186 undef, A.tmps.getD 187 undef, A.tmps.getD 188 undef, A.tmps.getD 189 undef, A.tmps.getD 190 undef, A.tmps.getD 191 undef, A.tmps.getD 192 undef, A.tmps.getD 193 undef, A.tmps.getD 194 undef, A.tmps.getD 195 undef, A.tmps.getD 196 undef, A.tmps.getD 197 undef, A.tmps.getD 198 undef, A.tmps.getD 199 undef, A.tmps.getD 200 undef, A.tmps.getD 201 undef, A.tmps.getD 202 undef, A.tmps.getD 203 undef, A.tmps.getD 204 undef, A.tmps.getD 205 undef, A.tmps.getD 206 undef, A.tmps.getD 207 undef, A.tmps.getD 208 undef, A.tmps.getD 209 undef, A.tmps.getD 210 undef, A.tmps.getD 211 undef, A.tmps.getD 212 undef, A.tmps.getD 213 undef, A.tmps.getD 214 undef, A.tmps.getD 215 undef, A.tmps.getD 216 undef, A.tmps.getD 217 undef, A.tmps.getD 218 undef, A.tmps.getD 219 undef, A.tmps.getD 220 undef, A.tmps.getD 221 undef, A.tmps.getD 222 undef, A.tmps.getD 223 undef, A.tmps.getD 224 undef, A.tmps.getD 225 undef, A.tmps.getD 226 undef, A.tmps.getD 227 undef, A.tmps.getD 228 undef, A.tmps.getD 229 undef, A.tmps.getD 230 undef, A.tmps.getD 231 undef, A.tmps.getD 232 undef, A.tmps.getD 233 undef, A.tmps.getD 234 undef, A.tmps.getD 235 undef, A.tmps.getD 236 undef, A.tmps.getD 237 undef, A.tmps.getD 238 undef, A.tmps.getD 239 undef, A.tmps.getD 240 undef, A.tmps.getD 241 undef, A.tmps.getD 242 undef, A.tmps.getD 243 undef, A.tmps.getD 244 undef, A.tmps.getD 245 undef, A.tmps.getD 246 undef, A.tmps.getD 247 undef, A.tmps.getD 248 undef, A.tmps.getD 249 undef, A.tmps.getD 250 undef, A.tmps.getD 251 undef, A.tmps.getD 252 undef, A.tmps.getD 253 undef, A.tmps.getD 254 undef, A.tmps.getD 255 undef, A.tmps.getD 256 undef, A.tmps.getD 257 undef, A.tmps.getD 258 undef, A.tmps.getD 259 undef, A.tmps.getD 260 undef, A.tmps.getD 261 undef, A.tmps.getD 262 undef, A.tmps.getD 263 undef, A.tmps.getD 264 undef, A.tmps.getD 265 undef, A.tmps.getD 266 undef, A.tmps.getD 267 undef, A.tmps.getD 268 undef, A.tmps.getD 269 undef, A.tmps.getD 270 undef, A.tmps.getD 271 undef], []⟩) : gpI w0 G al la ca m A w :=
  ⟨fun k => A.tmps.getD k undef, AE, lv, tr, a, N, c,  h1, hf, h⟩

set_option maxRecDepth 1000000 in
set_option maxHeartbeats 4000000 in
theorem gp_go {w0 : World} {G : GPl} {al : Option Addr} {la ca : Nat} {m : Nat} {U : Nat → Value} {w : World} {AE : List (Nat × Nat)} {lv : Nat × Nat → Nat} {tr : Nat × Nat → Bool} {a : Option Addr} {N c : Nat} (h0 : ErrType w0) (hs : S4 w0 al la) (hm : m < min la 60) (hf : (PW w0 G AE lv tr a N c w ∧ N ≤ m)) (K : Act → World → Prop) (Q : Exit → Act → World → Prop) (hK : ∀ A w', gpI w0 G al la ca (m + 1) A w' → K A w') :
    (loopAt Tryz.f4 0).wp Tryz.prog (Exit.then K Q) ⟨#[.int .i64 (G.n : Nat), .slice al la ca, U 2, U 3, U 4, U 5, .pointer (some ⟨G.g, 0, none⟩), U 7, U 8, .slice a N c, .int .i64 (m : Nat), U 11, U 12, U 13, U 14, U 15, U 16, U 17, U 18, U 19, U 20, U 21, U 22, U 23, U 24, U 25, U 26, U 27, U 28, U 29, U 30, U 31, U 32, U 33, U 34, U 35, U 36, U 37, U 38, U 39, U 40, U 41, U 42, U 43, U 44, U 45, U 46, U 47, U 48, U 49, U 50, U 51, U 52, U 53, U 54, U 55, U 56, U 57, U 58, U 59, U 60, U 61, U 62, U 63, U 64, U 65, U 66, U 67, U 68, U 69, U 70, U 71, U 72, U 73, U 74, U 75, U 76, U 77, U 78, U 79, U 80, U 81, U 82, U 83, U 84, U 85, U 86, U 87, U 88, U 89, U 90, U 91, U 92, U 93, U 94, U 95, U 96, U 97, U 98, U 99, U 100, U 101, U 102, U 103, U 104, U 105, U 106, U 107, U 108, U 109, U 110, U 111, U 112, U 113, U 114, U 115, U 116, U 117, U 118, U 119, U 120, U 121, U 122, U 123, U 124, U 125, U 126, U 127, U 128, U 129, U 130, U 131, U 132, U 133, U 134, U 135, U 136, U 137, U 138, U 139, U 140, U 141, U 142, U 143, U 144, U 145, U 146, U 147, U 148, U 149, U 150, U 151, U 152, U 153, U 154, U 155, U 156, U 157, U 158, U 159, U 160, U 161, U 162, U 163, U 164, U 165, U 166, U 167, U 168, U 169, U 170, U 171, U 172, U 173, U 174, U 175, U 176, U 177, U 178, U 179, U 180, U 181, U 182, U 183, U 184, U 185, U 186, U 187, U 188, U 189, U 190, U 191, U 192, U 193, U 194, U 195, U 196, U 197, U 198, U 199, U 200, U 201, U 202, U 203, U 204, U 205, U 206, U 207, U 208, U 209, U 210, U 211, U 212, U 213, U 214, U 215, U 216, U 217, U 218, U 219, U 220, U 221, U 222, U 223, U 224, U 225, U 226, U 227, U 228, U 229, U 230, U 231, U 232, U 233, U 234, U 235, U 236, U 237, U 238, U 239, U 240, U 241, U 242, U 243, U 244, U 245, U 246, U 247, U 248, U 249, U 250, U 251, U 252, U 253, U 254, U 255, U 256, U 257, U 258, U 259, U 260, U 261, U 262, U 263, U 264, U 265, U 266, U 267, U 268, U 269, U 270, U 271], []⟩ w := by
  have HK : Hid (∀ A w', gpI w0 G al la ca (m + 1) A w' → K A w') := hK
  clear hK
  obtain ⟨hm1, hm2⟩ : m < la ∧ m < 60 := by omega
  obtain ⟨b, o, what, x, y, al3, nl3, cl3, rfl, q0, q1, q2, q3⟩ := hs.step m hm1
  have k0 := cell_keep hf.1.gw.below q0
  have k1 := cell_keep hf.1.gw.below q1
  have k2 := cell_keep hf.1.gw.below q2
  have k3 := cell_keep hf.1.gw.below q3
  have i0 : (0 : Int) ≤ (m : Int) := by omega
  have i1 : (m : Int) < (la : Int) := by omega
  have HQ : Hid (PW w0 G AE lv tr a N c w) := hf.1
  have hNm : N ≤ m := hf.2
  clear hf hs q0 q1 q2 q3
  by_cases hqa : 0 ≤ x ∧ x < (G.n : Int)
  · by_cases hqb : 0 ≤ y ∧ y < (G.n : Int)
    · have HIn : Hid (((0 ≤ x ∧ x < (G.n : Int)) ∧ 0 ≤ y ∧ y < (G.n : Int))) := ⟨hqa, hqb⟩
      have HX : Hid ((0 ≤ x ∧ x < (G.n : Int))) := hqa
      conv => arg 2; whnf
      go_wp2_with fail
      refine (node_any (G.n : Nat) x _ true ⟨fun _ => HX.out, fun _ => rfl⟩).mono ?_
      rintro e w1 ⟨rfl, rfl⟩
      have hbA : Below w.heap.size w (w.alloc (.cells #[.int .i64 what, .int .i64 x, .int .i64 y, .slice al3 nl3 cl3] 34)) := (Below.refl _ _).alloc (Nat.le_refl _) _
      have HV1 : Hid (SG G w.heap.size what x y (w.alloc (.cells #[.int .i64 what, .int .i64 x, .int .i64 y, .slice al3 nl3 cl3] 34))) := ⟨by simp, by simp, by simp, fun hk => by have := HQ.out.gw.ok.mem.foot_lt hk; omega⟩
      have HQ1 : Hid (PW w0 G AE lv tr a N c (w.alloc (.cells #[.int .i64 what, .int .i64 x, .int .i64 y, .slice al3 nl3 cl3] 34))) := HQ.out.step hbA
      generalize (w.alloc (.cells #[.int .i64 what, .int .i64 x, .int .i64 y, .slice al3 nl3 cl3] 34)) = w1 at *
      generalize w.heap.size = gs at *
      clear k0 k1 k2 k3 hbA
      have s1 := HV1.out.c1
      have s2 := HV1.out.c2
      go_wp2_with fail
      refine (node_any (G.n : Nat) y _ true (by simpa using hqb)).mono ?_
      rintro e w2 ⟨rfl, rfl⟩
      have hpl := place_w HQ1.out (by omega) x y
      go_wp2_with fail
      refine hpl.mono ?_
      rintro e w4 ⟨k, rfl, hb4, hk⟩
      have HQ4 : Hid (PW w0 G AE lv tr a N c w4) := HQ1.out.step hb4
      have HV4 : Hid (SG G gs what x y w4) := HV1.out.step hb4
      have HK4 : Hid ((∃ j : Nat, j < N ∧ k = j ∧ IsOf (AE.getD j (0, 0)) x y) ∨ (k = -1 ∧ ∀ e ∈ AE, ¬ IsOf e x y)) := hk
      clear hpl hb4 hk s1 s2 HQ1 HV1 HQ
      have s0 := HV4.out.c0
      go_upto_block 2 with fail
      refine wp_mono (Q := fun ex A w' => ex = .normal ∧ Aft w0 G (some ⟨b, o, none⟩) la ca m N gs true what x y 0 A w') ?hsw ?_
      case hsw => exact sw_any h0 HQ4.out (by omega) HV4.out (Or.inl ⟨HIn.out, rfl⟩) HK4.out rfl
      rintro ex A w5 ⟨rfl, U5, A1, lv1, tr1, a1, N1, c1, hq5, hN5, hv5, rfl⟩
      go_step
      go_step
      refine tl_any (e := 0) h0 hq5 (by omega) (by omega) hv5 (Or.inl ⟨HIn.out, rfl⟩) ⟨fun _ => HX.out, fun _ => rfl⟩ _ ?_
      clear hq5 hv5
      rintro A w6 ⟨U6, A6, lv6, tr6, a6, N6, c6, hq6, hN6, rfl⟩
      have HQ6 : Hid (PW w0 G A6 lv6 tr6 a6 N6 c6 w6) := hq6
      clear hq6 s0 HQ4 HV4 HK4
      go_wp2_with fail
      rw [show ((m : Int) + 1) = ((m + 1 : Nat) : Int) from by omega]
      exact HK.out _ _ (gp_intro _ _ _ _ _ _ (by omega) ⟨HQ6.out, by omega⟩ rfl)
    · have HIn : Hid (¬ ((0 ≤ x ∧ x < (G.n : Int)) ∧ 0 ≤ y ∧ y < (G.n : Int))) := fun h => hqb h.2
      have HX : Hid ((0 ≤ x ∧ x < (G.n : Int))) := hqa
      conv => arg 2; whnf
      go_wp2_with fail
      refine (node_any (G.n : Nat) x _ true ⟨fun _ => HX.out, fun _ => rfl⟩).mono ?_
      rintro e w1 ⟨rfl, rfl⟩
      have hbA : Below w.heap.size w (w.alloc (.cells #[.int .i64 what, .int .i64 x, .int .i64 y, .slice al3 nl3 cl3] 34)) := (Below.refl _ _).alloc (Nat.le_refl _) _
      have HV1 : Hid (SG G w.heap.size what x y (w.alloc (.cells #[.int .i64 what, .int .i64 x, .int .i64 y, .slice al3 nl3 cl3] 34))) := ⟨by simp, by simp, by simp, fun hk => by have := HQ.out.gw.ok.mem.foot_lt hk; omega⟩
      have HQ1 : Hid (PW w0 G AE lv tr a N c (w.alloc (.cells #[.int .i64 what, .int .i64 x, .int .i64 y, .slice al3 nl3 cl3] 34))) := HQ.out.step hbA
      generalize (w.alloc (.cells #[.int .i64 what, .int .i64 x, .int .i64 y, .slice al3 nl3 cl3] 34)) = w1 at *
      generalize w.heap.size = gs at *
      clear k0 k1 k2 k3 hbA
      have s1 := HV1.out.c1
      have s2 := HV1.out.c2
      go_wp2_with fail
      refine (node_any (G.n : Nat) y _ false (by simpa using hqb)).mono ?_
      rintro e w2 ⟨rfl, rfl⟩
      have hpl := place_w HQ1.out (by omega) x y
      go_wp2_with fail
      refine hpl.mono ?_
      rintro e w4 ⟨k, rfl, hb4, hk⟩
      have HQ4 : Hid (PW w0 G AE lv tr a N c w4) := HQ1.out.step hb4
      have HV4 : Hid (SG G gs what x y w4) := HV1.out.step hb4
      have HK4 : Hid ((∃ j : Nat, j < N ∧ k = j ∧ IsOf (AE.getD j (0, 0)) x y) ∨ (k = -1 ∧ ∀ e ∈ AE, ¬ IsOf e x y)) := hk
      clear hpl hb4 hk s1 s2 HQ1 HV1 HQ
      have s0 := HV4.out.c0
      go_upto_block 2 with fail
      refine wp_mono (Q := fun ex A w' => ex = .normal ∧ Aft w0 G (some ⟨b, o, none⟩) la ca m N gs true what x y 1 A w') ?hsw ?_
      case hsw => exact sw_any h0 HQ4.out (by omega) HV4.out (Or.inr ⟨HIn.out, rfl⟩) HK4.out rfl
      rintro ex A w5 ⟨rfl, U5, A1, lv1, tr1, a1, N1, c1, hq5, hN5, hv5, rfl⟩
      go_step
      go_step
      refine tl_any (e := 1) h0 hq5 (by omega) (by omega) hv5 (Or.inr ⟨HIn.out, rfl⟩) ⟨fun _ => HX.out, fun _ => rfl⟩ _ ?_
      clear hq5 hv5
      rintro A w6 ⟨U6, A6, lv6, tr6, a6, N6, c6, hq6, hN6, rfl⟩
      have HQ6 : Hid (PW w0 G A6 lv6 tr6 a6 N6 c6 w6) := hq6
      clear hq6 s0 HQ4 HV4 HK4
      go_wp2_with fail
      rw [show ((m : Int) + 1) = ((m + 1 : Nat) : Int) from by omega]
      exact HK.out _ _ (gp_intro _ _ _ _ _ _ (by omega) ⟨HQ6.out, by omega⟩ rfl)
  · obtain ⟨qb, hqb⟩ : ∃ qb : Bool, qb = true ↔ (0 ≤ y ∧ y < (G.n : Int)) := ⟨decide (0 ≤ y ∧ y < (G.n : Int)), by simp⟩
    have HIn : Hid (¬ ((0 ≤ x ∧ x < (G.n : Int)) ∧ 0 ≤ y ∧ y < (G.n : Int))) := fun h => hqa h.1
    have HX : Hid (¬ (0 ≤ x ∧ x < (G.n : Int))) := hqa
    conv => arg 2; whnf
    go_wp2_with fail
    refine (node_any (G.n : Nat) x _ false ⟨fun h => (by cases h), fun h => absurd h HX.out⟩).mono ?_
    rintro e w1 ⟨rfl, rfl⟩
    have hbA : Below w.heap.size w (w.alloc (.cells #[.int .i64 what, .int .i64 x, .int .i64 y, .slice al3 nl3 cl3] 34)) := (Below.refl _ _).alloc (Nat.le_refl _) _
    have HV1 : Hid (SG G w.heap.size what x y (w.alloc (.cells #[.int .i64 what, .int .i64 x, .int .i64 y, .slice al3 nl3 cl3] 34))) := ⟨by simp, by simp, by simp, fun hk => by have := HQ.out.gw.ok.mem.foot_lt hk; omega⟩
    have HQ1 : Hid (PW w0 G AE lv tr a N c (w.alloc (.cells #[.int .i64 what, .int .i64 x, .int .i64 y, .slice al3 nl3 cl3] 34))) := HQ.out.step hbA
    generalize (w.alloc (.cells #[.int .i64 what, .int .i64 x, .int .i64 y, .slice al3 nl3 cl3] 34)) = w1 at *
    generalize w.heap.size = gs at *
    clear k0 k1 k2 k3 hbA
    have s1 := HV1.out.c1
    have s2 := HV1.out.c2
    go_wp2_with fail
    refine (node_any (G.n : Nat) y _ qb (by exact hqb)).mono ?_
    rintro e w2 ⟨rfl, rfl⟩
    have hpl := place_w HQ1.out (by omega) x y
    go_wp2_with fail
    refine hpl.mono ?_
    rintro e w4 ⟨k, rfl, hb4, hk⟩
    have HQ4 : Hid (PW w0 G AE lv tr a N c w4) := HQ1.out.step hb4
    have HV4 : Hid (SG G gs what x y w4) := HV1.out.step hb4
    have HK4 : Hid ((∃ j : Nat, j < N ∧ k = j ∧ IsOf (AE.getD j (0, 0)) x y) ∨ (k = -1 ∧ ∀ e ∈ AE, ¬ IsOf e x y)) := hk
    clear hpl hb4 hk s1 s2 HQ1 HV1 HQ
    have s0 := HV4.out.c0
    go_upto_block 2 with fail
    refine wp_mono (Q := fun ex A w' => ex = .normal ∧ Aft w0 G (some ⟨b, o, none⟩) la ca m N gs false what x y 1 A w') ?hsw ?_
    case hsw => exact sw_any h0 HQ4.out (by omega) HV4.out (Or.inr ⟨HIn.out, rfl⟩) HK4.out rfl
    rintro ex A w5 ⟨rfl, U5, A1, lv1, tr1, a1, N1, c1, hq5, hN5, hv5, rfl⟩
    go_step
    go_step
    refine tl_any (e := 1) h0 hq5 (by omega) (by omega) hv5 (Or.inr ⟨HIn.out, rfl⟩) ⟨fun h => (by cases h), fun h => absurd h HX.out⟩ _ ?_
    clear hq5 hv5
    rintro A w6 ⟨U6, A6, lv6, tr6, a6, N6, c6, hq6, hN6, rfl⟩
    have HQ6 : Hid (PW w0 G A6 lv6 tr6 a6 N6 c6 w6) := hq6
    clear hq6 s0 HQ4 HV4 HK4
    go_wp2_with fail
    rw [show ((m : Int) + 1) = ((m + 1 : Nat) : Int) from by omega]
    exact HK.out _ _ (gp_intro _ _ _ _ _ _ (by omega) ⟨HQ6.out, by omega⟩ rfl)

set_option maxRecDepth 1000000 in
set_option maxHeartbeats 4000000 in
theorem gp_end {w0 : World} {G : GPl} {al : Option Addr} {la ca : Nat} {m : Nat} {U : Nat → Value} {w : World} {AE : List (Nat × Nat)} {lv : Nat × Nat → Nat} {tr : Nat × Nat → Bool} {a : Option Addr} {N c : Nat} (h0 : ErrType w0) (hs : S4 w0 al la) (hend : m = min la 60) (hf : (PW w0 G AE lv tr a N c w ∧ N ≤ m)) (K : Act → World → Prop) (Q : Exit → Act → World → Prop) (hQ : ∀ A w', gpI w0 G al la ca (min la 60) A w' → Q (.exit 0) A w') :
    (loopAt Tryz.f4 0).wp Tryz.prog (Exit.then K Q) ⟨#[.int .i64 (G.n : Nat), .slice al la ca, U 2, U 3, U 4, U 5, .pointer (some ⟨G.g, 0, none⟩), U 7, U 8, .slice a N c, .int .i64 (m : Nat), U 11, U 12, U 13, U 14, U 15, U 16, U 17, U 18, U 19, U 20, U 21, U 22, U 23, U 24, U 25, U 26, U 27, U 28, U 29, U 30, U 31, U 32, U 33, U 34, U 35, U 36, U 37, U 38, U 39, U 40, U 41, U 42, U 43, U 44, U 45, U 46, U 47, U 48, U 49, U 50, U 51, U 52, U 53, U 54, U 55, U 56, U 57, U 58, U 59, U 60, U 61, U 62, U 63, U 64, U 65, U 66, U 67, U 68, U 69, U 70, U 71, U 72, U 73, U 74, U 75, U 76, U 77, U 78, U 79, U 80, U 81, U 82, U 83, U 84, U 85, U 86, U 87, U 88, U 89, U 90, U 91, U 92, U 93, U 94, U 95, U 96, U 97, U 98, U 99, U 100, U 101, U 102, U 103, U 104, U 105, U 106, U 107, U 108, U 109, U 110, U 111, U 112, U 113, U 114, U 115, U 116, U 117, U 118, U 119, U 120, U 121, U 122, U 123, U 124, U 125, U 126, U 127, U 128, U 129, U 130, U 131, U 132, U 133, U 134, U 135, U 136, U 137, U 138, U 139, U 140, U 141, U 142, U 143, U 144, U 145, U 146, U 147, U 148, U 149, U 150, U 151, U 152, U 153, U 154, U 155, U 156, U 157, U 158, U 159, U 160, U 161, U 162, U 163, U 164, U 165, U 166, U 167, U 168, U 169, U 170, U 171, U 172, U 173, U 174, U 175, U 176, U 177, U 178, U 179, U 180, U 181, U 182, U 183, U 184, U 185, U 186, U 187, U 188, U 189, U 190, U 191, U 192, U 193, U 194, U 195, U 196, U 197, U 198, U 199, U 200, U 201, U 202, U 203, U 204, U 205, U 206, U 207, U 208, U 209, U 210, U 211, U 212, U 213, U 214, U 215, U 216, U 217, U 218, U 219, U 220, U 221, U 222, U 223, U 224, U 225, U 226, U 227, U 228, U 229, U 230, U 231, U 232, U 233, U 234, U 235, U 236, U 237, U 238, U 239, U 240, U 241, U 242, U 243, U 244, U 245, U 246, U 247, U 248, U 249, U 250, U 251, U 252, U 253, U 254, U 255, U 256, U 257, U 258, U 259, U 260, U 261, U 262, U 263, U 264, U 265, U 266, U 267, U 268, U 269, U 270, U 271], []⟩ w := by
  have HQ : Hid (∀ A w', gpI w0 G al la ca m A w' → Q (.exit 0) A w') := fun A w' h => hQ A w' (by rw [hend] at h; exact h)
  have h1 : m ≤ min la 60 := by omega
  have HF : Hid ((PW w0 G AE lv tr a N c w ∧ N ≤ m)) := hf
  clear hQ hf
  have hnl : ¬ m < min la 60 := by omega
  clear hend
  by_cases hl : m < la
  · have e60 : ¬ m < 60 := by omega
    clear hnl
    conv => arg 2; whnf
    go_wp2_with fail
    exact HQ.out _ _ (gp_intro _ _ _ _ _ _ h1 HF.out rfl)
  · clear hnl
    conv => arg 2; whnf
    go_wp2_with fail
    exact HQ.out _ _ (gp_intro _ _ _ _ _ _ h1 HF.out rfl)

/-- How many rounds are still to come, at most. -/
def gp_togo (B : Nat) (A : Act) (_w : World) : Nat := B - (intOf (A.tmps.getD 10 undef)).toNat

set_option maxRecDepth 1000000 in
theorem gp_togo_is {w0 : World} {G : GPl} {al : Option Addr} {la ca : Nat} {m : Nat} {A : Act} {w : World} (h : gpI w0 G al la ca m A w) : gp_togo (min la 60) A w = min la 60 - m := by
  obtain ⟨U, AE, lv, tr, a, N, c,  _, _, rfl⟩ := h
  show min la 60 - ((m : Nat) : Int).toNat = min la 60 - m
  omega

theorem gp_round {w0 : World} {G : GPl} {al : Option Addr} {la ca : Nat} (h0 : ErrType w0) (hs : S4 w0 al la) (Q : Exit → Act → World → Prop) (hQ : ∀ A w', gpI w0 G al la ca (min la 60) A w' → Q (.exit 0) A w') (A : Act) (w : World) (h : ∃ m, gpI w0 G al la ca m A w) :
    (loopAt Tryz.f4 0).wp Tryz.prog (Exit.then (fun A' w' => (∃ m, gpI w0 G al la ca m A' w') ∧ gp_togo (min la 60) A' w' < gp_togo (min la 60) A w) Q) A w := by
  obtain ⟨m, hI⟩ := h
  have ht := gp_togo_is hI
  obtain ⟨U, AE, lv, tr, a, N, c,  h1, hf, rfl⟩ := hI
  by_cases hend : m = min la 60
  · exact gp_end h0 hs hend hf _ _ hQ
  · refine gp_go h0 hs (by omega) hf _ _ fun A' w' h' => ⟨⟨m + 1, h'⟩, ?_⟩
    rw [gp_togo_is h', ht]
    omega

set_option maxRecDepth 1000000 in
theorem gp_loop {w0 : World} {G : GPl} {al : Option Addr} {la ca : Nat} (h0 : ErrType w0) (hs : S4 w0 al la) {w : World} {AE : List (Nat × Nat)} {lv : Nat × Nat → Nat} {tr : Nat × Nat → Bool} {a : Option Addr} {N c : Nat} (hf : (PW w0 G AE lv tr a N c w ∧ N ≤ 0)) (Q : Exit → Act → World → Prop) (hQ : ∀ A w', gpI w0 G al la ca (min la 60) A w' → Q (.exit 0) A w') {A : Act} (hA : A = ⟨#[.int .i64 (G.n : Nat), .slice al la ca, A.tmps.getD 2 undef, A.tmps.getD 3 undef, A.tmps.getD 4 undef, A.tmps.getD 5 undef, .pointer (some ⟨G.g, 0, none⟩), A.tmps.getD 7 undef, A.tmps.getD 8 undef, .slice a N c, .int .i64 0, A.tmps.getD 11 undef, A.tmps.getD 12 undef, A.tmps.getD 13 undef, A.tmps.getD 14 undef, A.tmps.getD 15 undef, A.tmps.getD 16 undef, A.tmps.getD 17 undef, A.tmps.getD 18 undef, A.tmps.getD 19 undef, A.tmps.getD 20 undef, A.tmps.getD 21 undef, A.tmps.getD 22 undef, A.tmps.getD 23 undef, A.tmps.getD 24 undef, A.tmps.getD 25 undef, A.tmps.getD 26 undef, A.tmps.getD 27 undef, A.tmps.getD 28 undef, A.tmps.getD 29 undef, A.tmps.getD 30 undef, A.tmps.getD 31 undef, A.tmps.getD 32 undef, A.tmps.getD 33 undef, A.tmps.getD 34 undef, A.tmps.getD 35 undef, A.tmps.getD 36 undef, A.tmps.getD 37 undef, A.tmps.getD 38 undef, A.tmps.getD 39 undef, A.tmps.getD 40 undef, A.tmps.getD 41 undef, A.tmps.getD 42 undef, A.tmps.getD 43 undef, A.tmps.getD 44 undef, A.tmps.getD 45 undef, A.tmps.getD 46 undef, A.tmps.getD 47 undef, A.tmps.getD 48 undef, A.tmps.getD 49 undef, A.tmps.getD 50 undef, A.tmps.getD 51 undef, A.tmps.getD 52 undef, A.tmps.getD 53 undef, A.tmps.getD 54 undef, A.tmps.getD 55 undef, A.tmps.getD 56 undef, A.tmps.getD 57 undef, A.tmps.getD 58 undef, A.tmps.getD 59 undef, A.tmps.getD 60 undef, A.tmps.getD 61 undef, A.tmps.getD 62 undef, A.tmps.getD 63 undef, A.tmps.getD 64 undef, A.tmps.getD 65 undef, A.tmps.getD 66 undef, A.tmps.getD 67 undef, A.tmps.getD 68 undef, A.tmps.getD 69 undef, A.tmps.getD 70 undef, A.tmps.getD 71 undef, A.tmps.getD 72 undef, A.tmps.getD 73 undef, A.tmps.getD 74 undef, A.tmps.getD 75 undef, A.tmps.getD 76 undef, A.tmps.getD 77 undef, A.tmps.getD 78 undef, A.tmps.getD 79 undef, A.tmps.getD 80 undef, A.tmps.getD 81 undef, A.tmps.getD 82 undef, A.tmps.getD 83 undef, A.tmps.getD 84 undef, A.tmps.getD 85 undef, A.tmps.getD 86 undef, A.tmps.getD 87 undef, A.tmps.getD 88 undef, A.tmps.getD 89 undef, A.tmps.getD 90 undef, A.tmps.getD 91 undef, A.tmps.getD 92 undef, A.tmps.getD 93 undef, A.tmps.getD 94 undef, A.tmps.getD 95 undef, A.tmps.getD 96 undef, A.tmps.getD 97 undef, A.tmps.getD 98 undef, A.tmps.getD 99 undef, A.tmps.getD 100 undef, A.tmps.getD 101 undef, A.tmps.getD 102 undef, A.tmps.getD 103 undef, A.tmps.getD 104 undef, A.tmps.getD 105 undef, A.tmps.getD 106 undef, A.tmps.getD 107 undef, A.tmps.getD 108 undef, A.tmps.getD 109 undef, A.tmps.getD 110 undef, A.tmps.getD 111 undef, A.tmps.getD 112 undef, A.tmps.getD 113 undef, A.tmps.getD 114 undef, A.tmps.getD 115 undef, A.tmps.getD 116 undef, A.tmps.getD 117 undef, A.tmps.getD 118 undef, A.tmps.getD 119 undef, A.tmps.getD 120 undef, A.tmps.getD 121 undef, A.tmps.getD 122 undef, A.tmps.getD 123 undef, A.tmps.getD 124 undef, A.tmps.getD 125 undef, A.tmps.getD 126 undef, A.tmps.getD 127 undef, A.tmps.getD 128 undef, A.tmps.getD 129 undef, A.tmps.getD 130 undef, A.tmps.getD 131 undef, A.tmps.getD 132 undef, A.tmps.getD 133 undef, A.tmps.getD 134 undef, A.tmps.getD 135 undef, A.tmps.getD 136 undef, A.tmps.getD 137 undef, A.tmps.getD 138 undef, A.tmps.getD 139 undef, A.tmps.getD 140 undef, A.tmps.getD 141 undef, A.tmps.getD 142 undef, A.tmps.getD 143 undef, A.tmps.getD 144 undef, A.tmps.getD 145 undef, A.tmps.getD 146 undef, A.tmps.getD 147 undef, A.tmps.getD 148 undef, A.tmps.getD 149 undef, A.tmps.getD 150 undef, A.tmps.getD 151 undef, A.tmps.getD 152 undef, A.tmps.getD 153 undef, A.tmps.getD 154 undef, A.tmps.getD 155 undef, A.tmps.getD 156 undef, A.tmps.getD 157 undef, A.tmps.getD 158 undef, A.tmps.getD 159 undef, A.tmps.getD 160 undef, A.tmps.getD 161 undef, A.tmps.getD 162 undef, A.tmps.getD 163 undef, A.tmps.getD 164 undef, A.tmps.getD 165 undef, A.tmps.getD 166 undef, A.tmps.getD 167 undef, A.tmps.getD 168 undef, A.tmps.getD 169 undef, A.tmps.getD 170 undef, A.tmps.getD 171 undef, A.tmps.getD 172 undef, A.tmps.getD 173 undef, A.tmps.getD 174 undef, A.tmps.getD 175 undef, A.tmps.getD 176 undef, A.tmps.getD 177 undef, A.tmps.getD 178 undef, A.tmps.getD 179 undef, A.tmps.getD 180 undef, A.tmps.getD 181 undef, A.tmps.getD 182 undef, A.tmps.getD 183 undef, A.tmps.getD 184 undef, A.tmps.getD 185 undef, A.tmps.getD 186 undef, A.tmps.getD 187 undef, A.tmps.getD 188 undef, A.tmps.getD 189 undef, A.tmps.getD 190 undef, A.tmps.getD 191 undef, A.tmps.getD 192 undef, A.tmps.getD 193 undef, A.tmps.getD 194 undef, A.tmps.getD 195 undef, A.tmps.getD 196 undef, A.tmps.getD 197 undef, A.tmps.getD 198 undef, A.tmps.getD 199 undef, A.tmps.getD 200 undef, A.tmps.getD 201 undef, A.tmps.getD 202 undef, A.tmps.getD 203 undef, A.tmps.getD 204 undef, A.tmps.getD 205 undef, A.tmps.getD 206 undef, A.tmps.getD 207 undef, A.tmps.getD 208 undef, A.tmps.getD 209 undef, A.tmps.getD 210 undef, A.tmps.getD 211 undef, A.tmps.getD 212 undef, A.tmps.getD 213 undef, A.tmps.getD 214 undef, A.tmps.getD 215 undef, A.tmps.getD 216 undef, A.tmps.getD 217 undef, A.tmps.getD 218 undef, A.tmps.getD 219 undef, A.tmps.getD 220 undef, A.tmps.getD 221 undef, A.tmps.getD 222 undef, A.tmps.getD 223 undef, A.tmps.getD 224 undef, A.tmps.getD 225 undef, A.tmps.getD 226 undef, A.tmps.getD 227 undef, A.tmps.getD 228 undef, A.tmps.getD 229 undef, A.tmps.getD 230 undef, A.tmps.getD 231 undef, A.tmps.getD 232 undef, A.tmps.getD 233 undef, A.tmps.getD 234 undef, A.tmps.getD 235 undef, A.tmps.getD 236 undef, A.tmps.getD 237 undef, A.tmps.getD 238 undef, A.tmps.getD 239 undef, A.tmps.getD 240 undef, A.tmps.getD 241 undef, A.tmps.getD 242 undef, A.tmps.getD 243 undef, A.tmps.getD 244 undef, A.tmps.getD 245 undef, A.tmps.getD 246 undef, A.tmps.getD 247 undef, A.tmps.getD 248 undef, A.tmps.getD 249 undef, A.tmps.getD 250 undef, A.tmps.getD 251 undef, A.tmps.getD 252 undef, A.tmps.getD 253 undef, A.tmps.getD 254 undef, A.tmps.getD 255 undef, A.tmps.getD 256 undef, A.tmps.getD 257 undef, A.tmps.getD 258 undef, A.tmps.getD 259 undef, A.tmps.getD 260 undef, A.tmps.getD 261 undef, A.tmps.getD 262 undef, A.tmps.getD 263 undef, A.tmps.getD 264 undef, A.tmps.getD 265 undef, A.tmps.getD 266 undef, A.tmps.getD 267 undef, A.tmps.getD 268 undef, A.tmps.getD 269 undef, A.tmps.getD 270 undef, A.tmps.getD 271 undef], []⟩) : (Code.loop (loopAt Tryz.f4 0)).wp Tryz.prog Q A w :=
  wp_loop (fun A w => ∃ m, gpI w0 G al la ca m A w) (gp_togo (min la 60)) ⟨0, gp_intro _ _ _ _ _ _ (Nat.zero_le _) hf hA⟩ (fun A w' h => gp_round h0 hs Q hQ A w' h)

end Go.Proofs.YtcebfloeikjjcaaGreatDoor.Gr
