/-
  TourPlays: a round, and all rounds.
-/
import Derived.Test.YtdlnbeoccakleaaGreatDoorQi
import Derived.Test.YtdlnbeoccakleaaGreatDoorQj
import Derived.Deep.DeepCutAuto
import Derived.Deep.CutBlock
namespace Go.Proofs.YtdlnbeoccakleaaGreatDoor
open Go.RowKit Go.Deep
set_option linter.unusedVariables false

/-- The script's steps, as they lie in memory. -/
structure S4 (w : World) (a : Option Addr) (n : Nat) : Prop where
  step : ∀ i, i < n → ∃ b o what x y al nl cl, a = some ⟨b, o, none⟩ ∧ w.cell? ⟨b, o + i * 4, none⟩ = some (.int .i64 what) ∧ w.cell? ⟨b, o + i * 4 + 1, none⟩ = some (.int .i64 x) ∧ w.cell? ⟨b, o + i * 4 + 2, none⟩ = some (.int .i64 y) ∧ w.cell? ⟨b, o + i * 4 + 3, none⟩ = some (.slice al nl cl)

theorem own_nats {base n : Nat} {v : Value} {xs : List Nat} {w : World} (h : w.ownsRow base 3 1 v n (xs.map fun i => Value.int .i64 ((i : Nat) : Int))) (hn : xs.length = n) (hp : 0 < n) : ∃ g cap, v = .slice (some ⟨g, 0, none⟩) n cap ∧ IntsAt w (some ⟨g, 0, none⟩) n cap (xs.map Int.ofNat) := by
  rcases h.2 with ⟨_, h0⟩ | ⟨g, cap, cur, hv, hb, hg, h1, h2, h3, h4⟩
  · omega
  · subst hv
    refine ⟨g, cap, rfl, by simpa using hn, h1, fun i hi => ⟨g, 0, rfl, ?_⟩⟩
    have hi2 : i < xs.length := by omega
    have e1 : (cur.toList.take (n * 1))[i]? = some (Value.int .i64 ((xs.getD i 0 : Nat) : Int)) := by
      rw [h4, List.getElem?_map, List.getElem?_eq_getElem hi2, List.getD_eq_getElem?_getD, List.getElem?_eq_getElem hi2]; rfl
    rw [List.getElem?_take, if_pos (by omega)] at e1
    simp only [World.cell?, hg, Nat.zero_add]
    rw [List.getD_eq_getElem?_getD, List.getElem?_map, List.getElem?_eq_getElem hi2]
    rw [List.getD_eq_getElem?_getD, List.getElem?_eq_getElem hi2] at e1
    simpa using e1


set_option maxRecDepth 1000000 in
/-- Where the loop stands. -/
def tpI (w0 : World) (L : Pl) (al : Option Addr) (la ca : Nat) (m : Nat) (A : Act) (w : World) : Prop :=
  ∃ (U : Nat → Value) (E : List (Nat × Nat)) (p : Nat → Nat) (a : Option Addr) (N c : Nat), m ≤ min la 60 ∧ QW w0 L E p a N c w ∧ A = ⟨#[.int .i64 (L.n : Nat), .slice al la ca, U 2, U 3, U 4, U 5, .pointer (some ⟨L.g, 0, none⟩), U 7, U 8, .slice a N c, .int .i64 (m : Nat), U 11, U 12, U 13, U 14, U 15, U 16, U 17, U 18, U 19, U 20, U 21, U 22, U 23, U 24, U 25, U 26, U 27, U 28, U 29, U 30, U 31, U 32, U 33, U 34, U 35, U 36, U 37, U 38, U 39, U 40, U 41, U 42, U 43, U 44, U 45, U 46, U 47, U 48, U 49, U 50, U 51, U 52, U 53, U 54, U 55, U 56, U 57, U 58, U 59, U 60, U 61, U 62, U 63, U 64, U 65, U 66, U 67, U 68, U 69, U 70, U 71, U 72, U 73, U 74, U 75, U 76, U 77, U 78, U 79, U 80, U 81, U 82, U 83, U 84, U 85, U 86, U 87, U 88, U 89, U 90, U 91, U 92, U 93, U 94, U 95, U 96, U 97, U 98, U 99, U 100, U 101, U 102, U 103, U 104, U 105, U 106, U 107, U 108, U 109, U 110, U 111, U 112, U 113, U 114, U 115, U 116, U 117, U 118, U 119, U 120, U 121, U 122, U 123, U 124, U 125, U 126, U 127, U 128, U 129, U 130, U 131, U 132, U 133, U 134, U 135, U 136, U 137, U 138, U 139, U 140, U 141, U 142, U 143, U 144, U 145, U 146, U 147, U 148, U 149, U 150, U 151, U 152, U 153, U 154, U 155, U 156, U 157, U 158, U 159, U 160, U 161, U 162, U 163, U 164, U 165, U 166, U 167, U 168, U 169, U 170, U 171, U 172, U 173, U 174, U 175, U 176, U 177, U 178, U 179, U 180, U 181, U 182, U 183, U 184, U 185, U 186, U 187, U 188, U 189, U 190, U 191, U 192, U 193, U 194, U 195, U 196, U 197, U 198, U 199, U 200, U 201, U 202, U 203, U 204, U 205, U 206, U 207, U 208, U 209, U 210, U 211, U 212, U 213, U 214, U 215, U 216, U 217, U 218, U 219, U 220, U 221, U 222, U 223, U 224, U 225, U 226, U 227, U 228, U 229, U 230, U 231, U 232, U 233, U 234, U 235, U 236, U 237, U 238, U 239, U 240, U 241, U 242, U 243, U 244], []⟩

set_option maxRecDepth 1000000 in
theorem tp_intro {w0 : World} {L : Pl} {al : Option Addr} {la ca : Nat} {m : Nat} {A : Act} {w : World} (E : List (Nat × Nat)) (p : Nat → Nat) (a : Option Addr) (N c : Nat) (h1 : m ≤ min la 60) (hf : QW w0 L E p a N c w) (h : A = ⟨#[.int .i64 (L.n : Nat), .slice al la ca, A.tmps.getD 2 undef, A.tmps.getD 3 undef, A.tmps.getD 4 undef, A.tmps.getD 5 undef, .pointer (some ⟨L.g, 0, none⟩), A.tmps.getD 7 undef, A.tmps.getD 8 undef, .slice a N c, .int .i64 (m : Nat), A.tmps.getD 11 undef, A.tmps.getD 12 undef, A.tmps.getD 13 undef, A.tmps.getD 14 undef, A.tmps.getD 15 undef, A.tmps.getD 16 undef, A.tmps.getD 17 undef, A.tmps.getD 18 undef, A.tmps.getD 19 undef, A.tmps.getD 20 undef, A.tmps.getD 21 undef, A.tmps.getD 22 undef, A.tmps.getD 23 undef, A.tmps.getD 24 undef, A.tmps.getD 25 undef, A.tmps.getD 26 undef, A.tmps.getD 27 undef, A.tmps.getD 28 undef, A.tmps.getD 29 undef, A.tmps.getD 30 undef, A.tmps.getD 31 undef, A.tmps.getD 32 undef, A.tmps.getD 33 undef, A.tmps.getD 34 undef, A.tmps.getD 35 undef, A.tmps.getD 36 undef, A.tmps.getD 37 undef, A.tmps.getD 38 undef, A.tmps.getD 39 undef, A.tmps.getD 40 undef, A.tmps.getD 41 undef, A.tmps.getD 42 undef, A.tmps.getD 43 undef, A.tmps.getD 44 undef, A.tmps.getD 45 undef, A.tmps.getD 46 undef, A.tmps.getD 47 undef, A.tmps.getD 48 undef, A.tmps.getD 49 undef, A.tmps.getD 50 undef, A.tmps.getD 51 undef, A.tmps.getD 52 undef, A.tmps.getD 53 undef, A.tmps.getD 54 undef, A.tmps.getD 55 undef, A.tmps.getD 56 undef, A.tmps.getD 57 undef, A.tmps.getD 58 undef, A.tmps.getD 59 undef, A.tmps.getD 60 undef, A.tmps.getD 61 undef, A.tmps.getD 62 undef, A.tmps.getD 63 undef, A.tmps.getD 64 undef, A.tmps.getD 65 undef, A.tmps.getD 66 undef, A.tmps.getD 67 undef, A.tmps.getD 68 undef, A.tmps.getD 69 undef, A.tmps.getD 70 undef, A.tmps.getD 71 undef, A.tmps.getD 72 undef, A.tmps.getD 73 undef, A.tmps.getD 74 undef, A.tmps.getD 75 undef, A.tmps.getD 76 undef, A.tmps.getD 77 undef, A.tmps.getD 78 undef, A.tmps.getD 79 undef, A.tmps.getD 80 undef, A.tmps.getD 81 undef, A.tmps.getD 82 undef, A.tmps.getD 83 undef, A.tmps.getD 84 undef, A.tmps.getD 85 undef, A.tmps.getD 86 undef, A.tmps.getD 87 undef, A.tmps.getD 88 undef, A.tmps.getD 89 undef, A.tmps.getD 90 undef, A.tmps.getD 91 undef, A.tmps.getD 92 undef, A.tmps.getD 93 undef, A.tmps.getD 94 undef, A.tmps.getD 95 undef, A.tmps.getD 96 undef, A.tmps.getD 97 undef, A.tmps.getD 98 undef, A.tmps.getD 99 undef, A.tmps.getD 100 undef, A.tmps.getD 101 undef, A.tmps.getD 102 undef, A.tmps.getD 103 undef, A.tmps.getD 104 undef, A.tmps.getD 105 undef, A.tmps.getD 106 undef, A.tmps.getD 107 undef, A.tmps.getD 108 undef, A.tmps.getD 109 undef, A.tmps.getD 110 undef, A.tmps.getD 111 undef, A.tmps.getD 112 undef, A.tmps.getD 113 undef, A.tmps.getD 114 undef, A.tmps.getD 115 undef, A.tmps.getD 116 undef, A.tmps.getD 117 undef, A.tmps.getD 118 undef, A.tmps.getD 119 undef, A.tmps.getD 120 undef, A.tmps.getD 121 undef, A.tmps.getD 122 undef, A.tmps.getD 123 undef, A.tmps.getD 124 undef, A.tmps.getD 125 undef, A.tmps.getD 126 undef, A.tmps.getD 127 undef, A.tmps.getD 128 undef, A.tmps.getD 129 undef, A.tmps.getD 130 undef, A.tmps.getD 131 undef, A.tmps.getD 132 undef, A.tmps.getD 133 undef, A.tmps.getD 134 undef, A.tmps.getD 135 undef, A.tmps.getD 136 undef, A.tmps.getD 137 undef, A.tmps.getD 138 undef, A.tmps.getD 139 undef, A.tmps.getD 140 undef, A.tmps.getD 141 undef, A.tmps.getD 142 undef, A.tmps.getD 143 undef, A.tmps.getD 144 undef, A.tmps.getD 145 undef, A.tmps.getD 146 undef, A.tmps.getD 147 undef, A.tmps.getD 148 undef, A.tmps.getD 149 undef, A.tmps.getD 150 undef, A.tmps.getD 151 undef, A.tmps.getD 152 undef, A.tmps.getD 153 undef, A.tmps.getD 154 undef, A.tmps.getD 155 undef, A.tmps.getD 156 undef, A.tmps.getD 157 undef, A.tmps.getD 158 undef, A.tmps.getD 159 undef, A.tmps.getD 160 undef, A.tmps.getD 161 undef, A.tmps.getD 162 undef, A.tmps.getD 163 undef, A.tmps.getD 164 undef, A.tmps.getD 165 undef, A.tmps.getD 166 undef, A.tmps.getD 167 undef, A.tmps.getD 168 undef, A.tmps.getD 169 undef, A.tmps.getD 170 undef, A.tmps.getD 171 undef, A.tmps.getD 172 undef, A.tmps.getD 173 undef, A.tmps.getD 174 undef, A.tmps.getD 175 undef, A.tmps.getD 176 undef, A.tmps.getD 177 undef, A.tmps.getD 178 undef, A.tmps.getD 179 undef, A.tmps.getD 180 undef, A.tmps.getD 181 undef, A.tmps.getD 182 undef, A.tmps.getD 183 undef, A.tmps.getD 184 undef, A.tmps.getD 185 undef, A.tmps.getD 186 undef, A.tmps.getD 187 undef, A.tmps.getD 188 undef, A.tmps.getD 189 undef, A.tmps.getD 190 undef, A.tmps.getD 191 undef, A.tmps.getD 192 undef, A.tmps.getD 193 undef, A.tmps.getD 194 undef, A.tmps.getD 195 undef, A.tmps.getD 196 undef, A.tmps.getD 197 undef, A.tmps.getD 198 undef, A.tmps.getD 199 undef, A.tmps.getD 200 undef, A.tmps.getD 201 undef, A.tmps.getD 202 undef, A.tmps.getD 203 undef, A.tmps.getD 204 undef, A.tmps.getD 205 undef, A.tmps.getD 206 undef, A.tmps.getD 207 undef, A.tmps.getD 208 undef, A.tmps.getD 209 undef, A.tmps.getD 210 undef, A.tmps.getD 211 undef, A.tmps.getD 212 undef, A.tmps.getD 213 undef, A.tmps.getD 214 undef, A.tmps.getD 215 undef, A.tmps.getD 216 undef, A.tmps.getD 217 undef, A.tmps.getD 218 undef, A.tmps.getD 219 undef, A.tmps.getD 220 undef, A.tmps.getD 221 undef, A.tmps.getD 222 undef, A.tmps.getD 223 undef, A.tmps.getD 224 undef, A.tmps.getD 225 undef, A.tmps.getD 226 undef, A.tmps.getD 227 undef, A.tmps.getD 228 undef, A.tmps.getD 229 undef, A.tmps.getD 230 undef, A.tmps.getD 231 undef, A.tmps.getD 232 undef, A.tmps.getD 233 undef, A.tmps.getD 234 undef, A.tmps.getD 235 undef, A.tmps.getD 236 undef, A.tmps.getD 237 undef, A.tmps.getD 238 undef, A.tmps.getD 239 undef, A.tmps.getD 240 undef, A.tmps.getD 241 undef, A.tmps.getD 242 undef, A.tmps.getD 243 undef, A.tmps.getD 244 undef], []⟩) : tpI w0 L al la ca m A w :=
  ⟨fun k => A.tmps.getD k undef, E, p, a, N, c,  h1, hf, h⟩

set_option maxRecDepth 1000000 in
set_option maxHeartbeats 4000000 in
theorem tp_go {w0 : World} {L : Pl} {al : Option Addr} {la ca : Nat} {m : Nat} {U : Nat → Value} {w : World} {E : List (Nat × Nat)} {p : Nat → Nat} {a : Option Addr} {N c : Nat} (h0 : ErrType w0) (hs : S4 w0 al la) (hm : m < min la 60) (hf : QW w0 L E p a N c w) (K : Act → World → Prop) (Q : Exit → Act → World → Prop) (hK : ∀ A w', tpI w0 L al la ca (m + 1) A w' → K A w') :
    (loopAt Tryz.f3 0).wp Tryz.prog (Exit.then K Q) ⟨#[.int .i64 (L.n : Nat), .slice al la ca, U 2, U 3, U 4, U 5, .pointer (some ⟨L.g, 0, none⟩), U 7, U 8, .slice a N c, .int .i64 (m : Nat), U 11, U 12, U 13, U 14, U 15, U 16, U 17, U 18, U 19, U 20, U 21, U 22, U 23, U 24, U 25, U 26, U 27, U 28, U 29, U 30, U 31, U 32, U 33, U 34, U 35, U 36, U 37, U 38, U 39, U 40, U 41, U 42, U 43, U 44, U 45, U 46, U 47, U 48, U 49, U 50, U 51, U 52, U 53, U 54, U 55, U 56, U 57, U 58, U 59, U 60, U 61, U 62, U 63, U 64, U 65, U 66, U 67, U 68, U 69, U 70, U 71, U 72, U 73, U 74, U 75, U 76, U 77, U 78, U 79, U 80, U 81, U 82, U 83, U 84, U 85, U 86, U 87, U 88, U 89, U 90, U 91, U 92, U 93, U 94, U 95, U 96, U 97, U 98, U 99, U 100, U 101, U 102, U 103, U 104, U 105, U 106, U 107, U 108, U 109, U 110, U 111, U 112, U 113, U 114, U 115, U 116, U 117, U 118, U 119, U 120, U 121, U 122, U 123, U 124, U 125, U 126, U 127, U 128, U 129, U 130, U 131, U 132, U 133, U 134, U 135, U 136, U 137, U 138, U 139, U 140, U 141, U 142, U 143, U 144, U 145, U 146, U 147, U 148, U 149, U 150, U 151, U 152, U 153, U 154, U 155, U 156, U 157, U 158, U 159, U 160, U 161, U 162, U 163, U 164, U 165, U 166, U 167, U 168, U 169, U 170, U 171, U 172, U 173, U 174, U 175, U 176, U 177, U 178, U 179, U 180, U 181, U 182, U 183, U 184, U 185, U 186, U 187, U 188, U 189, U 190, U 191, U 192, U 193, U 194, U 195, U 196, U 197, U 198, U 199, U 200, U 201, U 202, U 203, U 204, U 205, U 206, U 207, U 208, U 209, U 210, U 211, U 212, U 213, U 214, U 215, U 216, U 217, U 218, U 219, U 220, U 221, U 222, U 223, U 224, U 225, U 226, U 227, U 228, U 229, U 230, U 231, U 232, U 233, U 234, U 235, U 236, U 237, U 238, U 239, U 240, U 241, U 242, U 243, U 244], []⟩ w := by
  have HK : Hid (∀ A w', tpI w0 L al la ca (m + 1) A w' → K A w') := hK
  clear hK
  obtain ⟨hm1, hm2⟩ : m < la ∧ m < 60 := by omega
  obtain ⟨b, o, what, x, y, al3, nl3, cl3, rfl, q0, q1, q2, q3⟩ := hs.step m hm1
  have k0 := cell_keep hf.below q0
  have k1 := cell_keep hf.below q1
  have k2 := cell_keep hf.below q2
  have k3 := cell_keep hf.below q3
  have i0 : (0 : Int) ≤ (m : Int) := by omega
  have i1 : (m : Int) < (la : Int) := by omega
  have HQ : Hid (QW w0 L E p a N c w) := hf
  clear hf hs q0 q1 q2 q3
  by_cases hqa : 0 ≤ x ∧ x < (L.n : Int)
  · by_cases hqb : 0 ≤ y ∧ y < (L.n : Int)
    · have HIn : Hid (((0 ≤ x ∧ x < (L.n : Int)) ∧ 0 ≤ y ∧ y < (L.n : Int))) := ⟨hqa, hqb⟩
      conv => arg 2; whnf
      go_wp2_with fail
      refine (node_any (L.n : Nat) x _ true (by simpa using hqa)).mono ?_
      rintro e w1 ⟨rfl, rfl⟩
      have hbA : Below w.heap.size w (w.alloc (.cells #[.int .i64 what, .int .i64 x, .int .i64 y, .slice al3 nl3 cl3] 34)) := (Below.refl _ _).alloc (Nat.le_refl _) _
      have HV1 : Hid (SV L w.heap.size what x y (w.alloc (.cells #[.int .i64 what, .int .i64 x, .int .i64 y, .slice al3 nl3 cl3] 34))) := ⟨by simp, by simp, by simp, fun hk => by have := HQ.out.f.foot_lt hk; omega⟩
      have HQ1 : Hid (QW w0 L E p a N c (w.alloc (.cells #[.int .i64 what, .int .i64 x, .int .i64 y, .slice al3 nl3 cl3] 34))) := HQ.out.step hbA
      generalize (w.alloc (.cells #[.int .i64 what, .int .i64 x, .int .i64 y, .slice al3 nl3 cl3] 34)) = w1 at *
      generalize w.heap.size = gs at *
      clear k0 k1 k2 k3 hbA
      have s0 := HV1.out.c0
      have s1 := HV1.out.c1
      have s2 := HV1.out.c2
      go_wp2_with fail
      refine (node_any (L.n : Nat) y _ true (by simpa using hqb)).mono ?_
      rintro e w2 ⟨rfl, rfl⟩
      have hparts := parts_of (c := c) HQ1.out.list HQ1.out.len (by have := HQ1.out.small; omega) L.n (by have := HQ1.out.n60; omega) HQ1.out.n60.1 HQ1.out.f.grown.among HQ1.out.f.grown.rest
      go_wp2_with fail
      refine hparts.mono ?_
      rintro e w3 ⟨kp, cp, rfl, hb3, -, hcp⟩
      have HQ3 : Hid (QW w0 L E p a N c w3) := HQ1.out.step hb3
      have HV3 : Hid (SV L gs what x y w3) := HV1.out.step hb3
      have HP3 : Hid (∀ i, i < L.n → w3.cell? ⟨kp, i, none⟩ = some (.int .i64 (p i : Nat))) := hcp
      clear hparts hb3 hcp s0 s1 s2
      have s0 := HV3.out.c0
      have s1 := HV3.out.c1
      have s2 := HV3.out.c2
      have hpl := place_ref (c := c) HQ3.out.list HQ3.out.len (by have := HQ3.out.small; omega) x y
      go_wp2_with fail
      refine hpl.mono ?_
      rintro e w4 ⟨k, rfl, hb4, hk⟩
      have HQ4 : Hid (QW w0 L E p a N c w4) := HQ3.out.step hb4
      have HV4 : Hid (SV L gs what x y w4) := HV3.out.step hb4
      have HP4 : Hid (∀ i, i < L.n → w4.cell? ⟨kp, i, none⟩ = some (.int .i64 (p i : Nat))) := fun i hi => cell_keep hb4 (HP3.out i hi)
      have HK4 : Hid ((∃ j : Nat, j < N ∧ k = j ∧ IsOf (E.getD j (0, 0)) x y) ∨ (k = -1 ∧ ∀ e ∈ E, ¬ IsOf e x y)) := hk
      clear hpl hb4 hk s0 s1 s2
      have s0 := HV4.out.c0
      go_upto_block 2 with fail
      refine wp_mono (Q := fun e A w' => e = .normal ∧ Aft w0 L (some ⟨b, o, none⟩) la ca m gs true what x y A w') ?hsw ?_
      case hsw => exact sw_any (p := p) (E := E) h0 HQ4.out HV4.out HP4.out (Or.inl ⟨HIn.out, rfl⟩) HK4.out rfl
      rintro e A w5 ⟨rfl, U5, E1, p1, a1, N1, c1, hq5, hv5, rfl⟩
      obtain rfl := hq5.len
      have HQ5 : Hid (QW w0 L E1 p1 a1 E1.length c1 w5) := hq5
      have HV5 : Hid (SV L gs what x y w5) := hv5
      clear hq5 hv5 s0 HQ HQ1 HV1 HQ3 HV3 HP3 HQ4 HV4 HP4 HK4
      have hparts := parts_of (c := c1) HQ5.out.list rfl (by have := HQ5.out.small; omega) L.n (by have := HQ5.out.n60; omega) HQ5.out.n60.1 HQ5.out.f.grown.among HQ5.out.f.grown.rest
      go_wp2_with fail
      refine hparts.mono ?_
      rintro e w6 ⟨kq, cq, rfl, hb6, -, hcq⟩
      have HQ6 : Hid (QW w0 L E1 p1 a1 E1.length c1 w6) := HQ5.out.step hb6
      have HV6 : Hid (SV L gs what x y w6) := HV5.out.step hb6
      have HP6 : Hid (∀ i, i < L.n → w6.cell? ⟨kq, i, none⟩ = some (.int .i64 (p1 i : Nat))) := hcq
      clear hparts hb6 hcq HQ5 HV5
      obtain ⟨u, rfl⟩ := Int.eq_ofNat_of_zero_le (hqa).1
      have hu : u < L.n := by have := hqa.2; omega
      have hn60 := HQ6.out.n60.1
      go_wp2_with fail
      refine wl_loop (wS := w6) u hu hn60 (r := p1 u) rfl HP6.out HV6.out.c1 ⟨Below.refl _ _, World.ownsRow_nil ..⟩ _ ?_ rfl
      rintro A w7 ⟨U7, v7, _, ⟨hb7, hown7⟩, rfl⟩
      have hin : u ∈ nodesOf L.n p1 (p1 u) := mem_nodesOf.2 ⟨hu, rfl⟩
      have hM0 : 0 < (nodesOf L.n p1 (p1 u)).length := List.length_pos_iff.2 (fun e => by rw [e] at hin; cases hin)
      obtain ⟨g7, cap7, rfl, hi7⟩ := own_nats hown7 rfl hM0
      have HQ7 : Hid (QW w0 L E1 p1 a1 E1.length c1 w7) := HQ6.out.step hb7
      have HV7 : Hid (SV L gs what (u : Nat) y w7) := HV6.out.step hb7
      have hM60 := nodes_small HQ7.out.f (p1 u)
      generalize hxs : nodesOf L.n p1 (p1 u) = xs at *
      have HI7 : Hid (IntsAt w7 (some ⟨g7, 0, none⟩) xs.length cap7 (xs.map Int.ofNat)) := hi7
      have HX : Hid (nodesOf L.n p1 (p1 u) = xs) := hxs
      clear hb7 hown7 hi7 hin hxs HQ6 HV6 HP6
      have s1 := HV7.out.c1
      have hmem := members_l HQ7.out.f u hu xs HX.out
      go_wp2_with fail
      refine hmem.mono ?_
      rintro e w8 ⟨k8, c8, rfl, hb8, -, hn8, hc8, -⟩
      have HQ8 : Hid (QW w0 L E1 p1 a1 E1.length c1 w8) := HQ7.out.step hb8
      have HV8 : Hid (SV L gs what (u : Nat) y w8) := HV7.out.step hb8
      have HI8 : Hid (IntsAt w8 (some ⟨g7, 0, none⟩) xs.length cap7 (xs.map Int.ofNat)) := HI7.out.below hb8
      have HN8 : Hid (IntsAt w8 (some ⟨k8, 0, none⟩) xs.length c8 (xs.map Int.ofNat)) := hn8.ints hc8
      clear hmem hb8 hn8 hc8 s1 HQ7 HV7 HI7
      go_wp2_with fail
      refine (error_any (n := 0) ⟨Or.inl ⟨rfl, rfl⟩⟩ (h0.below HQ8.out.below)).mono ?_
      rintro e w9 ⟨rfl, hb9⟩
      have HQ9 : Hid (QW w0 L E1 p1 a1 E1.length c1 w9) := HQ8.out.step hb9
      have HV9 : Hid (SV L gs what (u : Nat) y w9) := HV8.out.step hb9
      have hints := ints_any (HN8.out.below hb9) (HI8.out.below hb9) (by omega)
      clear hb9 HQ8 HV8 HI8 HN8
      go_wp2_with fail
      refine hints.mono ?_
      rintro e w10 ⟨rfl, hb10⟩
      have HQ10 : Hid (QW w0 L E1 p1 a1 E1.length c1 w10) := HQ9.out.step hb10
      have HV10 : Hid (SV L gs what (u : Nat) y w10) := HV9.out.step hb10
      clear hints hb10 HQ9 HV9
      have s1 := HV10.out.c1
      have hsize := size_tree HQ10.out.f u hu xs.length (by rw [HX.out])
      go_wp2_with fail
      refine hsize.mono ?_
      rintro e w11 ⟨rfl, hb11⟩
      have HQ11 : Hid (QW w0 L E1 p1 a1 E1.length c1 w11) := HQ10.out.step hb11
      clear hsize hb11 s1 HQ10 HV10
      go_wp2_with fail
      refine (error_any (n := 0) ⟨Or.inl ⟨rfl, rfl⟩⟩ (h0.below HQ11.out.below)).mono ?_
      rintro e w12 ⟨rfl, hb12⟩
      have HQ12 : Hid (QW w0 L E1 p1 a1 E1.length c1 w12) := HQ11.out.step hb12
      clear hb12 HQ11
      have hed := fedges_any HQ12.out.f
      go_wp2_with fail
      refine hed.mono ?_
      rintro e w13 ⟨a13, c13, rfl, hb13, hE13, -, -, -⟩
      have HQ13 : Hid (QW w0 L E1 p1 a1 E1.length c1 w13) := HQ12.out.step hb13
      have hsame := edges_same (cap := c13) (cap' := c1) rfl hE13 HQ13.out.list (by have := HQ13.out.small; omega)
      clear hed hb13 hE13 HQ12
      go_wp2_with fail
      refine hsame.mono ?_
      rintro e w14 ⟨rfl, hb14⟩
      have HQ14 : Hid (QW w0 L E1 p1 a1 E1.length c1 w14) := HQ13.out.step hb14
      clear hsame hb14 HQ13
      go_wp2_with fail
      rw [show ((m : Int) + 1) = ((m + 1 : Nat) : Int) from by omega]
      exact HK.out _ _ (tp_intro _ _ _ _ _ (by omega) HQ14.out rfl)
    · have HIn : Hid (¬ ((0 ≤ x ∧ x < (L.n : Int)) ∧ 0 ≤ y ∧ y < (L.n : Int))) := fun h => hqb h.2
      conv => arg 2; whnf
      go_wp2_with fail
      refine (node_any (L.n : Nat) x _ true (by simpa using hqa)).mono ?_
      rintro e w1 ⟨rfl, rfl⟩
      have hbA : Below w.heap.size w (w.alloc (.cells #[.int .i64 what, .int .i64 x, .int .i64 y, .slice al3 nl3 cl3] 34)) := (Below.refl _ _).alloc (Nat.le_refl _) _
      have HV1 : Hid (SV L w.heap.size what x y (w.alloc (.cells #[.int .i64 what, .int .i64 x, .int .i64 y, .slice al3 nl3 cl3] 34))) := ⟨by simp, by simp, by simp, fun hk => by have := HQ.out.f.foot_lt hk; omega⟩
      have HQ1 : Hid (QW w0 L E p a N c (w.alloc (.cells #[.int .i64 what, .int .i64 x, .int .i64 y, .slice al3 nl3 cl3] 34))) := HQ.out.step hbA
      generalize (w.alloc (.cells #[.int .i64 what, .int .i64 x, .int .i64 y, .slice al3 nl3 cl3] 34)) = w1 at *
      generalize w.heap.size = gs at *
      clear k0 k1 k2 k3 hbA
      have s0 := HV1.out.c0
      have s1 := HV1.out.c1
      have s2 := HV1.out.c2
      go_wp2_with fail
      refine (node_any (L.n : Nat) y _ false (by simpa using hqb)).mono ?_
      rintro e w2 ⟨rfl, rfl⟩
      have hparts := parts_of (c := c) HQ1.out.list HQ1.out.len (by have := HQ1.out.small; omega) L.n (by have := HQ1.out.n60; omega) HQ1.out.n60.1 HQ1.out.f.grown.among HQ1.out.f.grown.rest
      go_wp2_with fail
      refine hparts.mono ?_
      rintro e w3 ⟨kp, cp, rfl, hb3, -, hcp⟩
      have HQ3 : Hid (QW w0 L E p a N c w3) := HQ1.out.step hb3
      have HV3 : Hid (SV L gs what x y w3) := HV1.out.step hb3
      have HP3 : Hid (∀ i, i < L.n → w3.cell? ⟨kp, i, none⟩ = some (.int .i64 (p i : Nat))) := hcp
      clear hparts hb3 hcp s0 s1 s2
      have s0 := HV3.out.c0
      have s1 := HV3.out.c1
      have s2 := HV3.out.c2
      have hpl := place_ref (c := c) HQ3.out.list HQ3.out.len (by have := HQ3.out.small; omega) x y
      go_wp2_with fail
      refine hpl.mono ?_
      rintro e w4 ⟨k, rfl, hb4, hk⟩
      have HQ4 : Hid (QW w0 L E p a N c w4) := HQ3.out.step hb4
      have HV4 : Hid (SV L gs what x y w4) := HV3.out.step hb4
      have HP4 : Hid (∀ i, i < L.n → w4.cell? ⟨kp, i, none⟩ = some (.int .i64 (p i : Nat))) := fun i hi => cell_keep hb4 (HP3.out i hi)
      have HK4 : Hid ((∃ j : Nat, j < N ∧ k = j ∧ IsOf (E.getD j (0, 0)) x y) ∨ (k = -1 ∧ ∀ e ∈ E, ¬ IsOf e x y)) := hk
      clear hpl hb4 hk s0 s1 s2
      have s0 := HV4.out.c0
      go_upto_block 2 with fail
      refine wp_mono (Q := fun e A w' => e = .normal ∧ Aft w0 L (some ⟨b, o, none⟩) la ca m gs true what x y A w') ?hsw ?_
      case hsw => exact sw_any (p := p) (E := E) h0 HQ4.out HV4.out HP4.out (Or.inr ⟨HIn.out, rfl⟩) HK4.out rfl
      rintro e A w5 ⟨rfl, U5, E1, p1, a1, N1, c1, hq5, hv5, rfl⟩
      obtain rfl := hq5.len
      have HQ5 : Hid (QW w0 L E1 p1 a1 E1.length c1 w5) := hq5
      have HV5 : Hid (SV L gs what x y w5) := hv5
      clear hq5 hv5 s0 HQ HQ1 HV1 HQ3 HV3 HP3 HQ4 HV4 HP4 HK4
      have hparts := parts_of (c := c1) HQ5.out.list rfl (by have := HQ5.out.small; omega) L.n (by have := HQ5.out.n60; omega) HQ5.out.n60.1 HQ5.out.f.grown.among HQ5.out.f.grown.rest
      go_wp2_with fail
      refine hparts.mono ?_
      rintro e w6 ⟨kq, cq, rfl, hb6, -, hcq⟩
      have HQ6 : Hid (QW w0 L E1 p1 a1 E1.length c1 w6) := HQ5.out.step hb6
      have HV6 : Hid (SV L gs what x y w6) := HV5.out.step hb6
      have HP6 : Hid (∀ i, i < L.n → w6.cell? ⟨kq, i, none⟩ = some (.int .i64 (p1 i : Nat))) := hcq
      clear hparts hb6 hcq HQ5 HV5
      obtain ⟨u, rfl⟩ := Int.eq_ofNat_of_zero_le (hqa).1
      have hu : u < L.n := by have := hqa.2; omega
      have hn60 := HQ6.out.n60.1
      go_wp2_with fail
      refine wl_loop (wS := w6) u hu hn60 (r := p1 u) rfl HP6.out HV6.out.c1 ⟨Below.refl _ _, World.ownsRow_nil ..⟩ _ ?_ rfl
      rintro A w7 ⟨U7, v7, _, ⟨hb7, hown7⟩, rfl⟩
      have hin : u ∈ nodesOf L.n p1 (p1 u) := mem_nodesOf.2 ⟨hu, rfl⟩
      have hM0 : 0 < (nodesOf L.n p1 (p1 u)).length := List.length_pos_iff.2 (fun e => by rw [e] at hin; cases hin)
      obtain ⟨g7, cap7, rfl, hi7⟩ := own_nats hown7 rfl hM0
      have HQ7 : Hid (QW w0 L E1 p1 a1 E1.length c1 w7) := HQ6.out.step hb7
      have HV7 : Hid (SV L gs what (u : Nat) y w7) := HV6.out.step hb7
      have hM60 := nodes_small HQ7.out.f (p1 u)
      generalize hxs : nodesOf L.n p1 (p1 u) = xs at *
      have HI7 : Hid (IntsAt w7 (some ⟨g7, 0, none⟩) xs.length cap7 (xs.map Int.ofNat)) := hi7
      have HX : Hid (nodesOf L.n p1 (p1 u) = xs) := hxs
      clear hb7 hown7 hi7 hin hxs HQ6 HV6 HP6
      have s1 := HV7.out.c1
      have hmem := members_l HQ7.out.f u hu xs HX.out
      go_wp2_with fail
      refine hmem.mono ?_
      rintro e w8 ⟨k8, c8, rfl, hb8, -, hn8, hc8, -⟩
      have HQ8 : Hid (QW w0 L E1 p1 a1 E1.length c1 w8) := HQ7.out.step hb8
      have HV8 : Hid (SV L gs what (u : Nat) y w8) := HV7.out.step hb8
      have HI8 : Hid (IntsAt w8 (some ⟨g7, 0, none⟩) xs.length cap7 (xs.map Int.ofNat)) := HI7.out.below hb8
      have HN8 : Hid (IntsAt w8 (some ⟨k8, 0, none⟩) xs.length c8 (xs.map Int.ofNat)) := hn8.ints hc8
      clear hmem hb8 hn8 hc8 s1 HQ7 HV7 HI7
      go_wp2_with fail
      refine (error_any (n := 0) ⟨Or.inl ⟨rfl, rfl⟩⟩ (h0.below HQ8.out.below)).mono ?_
      rintro e w9 ⟨rfl, hb9⟩
      have HQ9 : Hid (QW w0 L E1 p1 a1 E1.length c1 w9) := HQ8.out.step hb9
      have HV9 : Hid (SV L gs what (u : Nat) y w9) := HV8.out.step hb9
      have hints := ints_any (HN8.out.below hb9) (HI8.out.below hb9) (by omega)
      clear hb9 HQ8 HV8 HI8 HN8
      go_wp2_with fail
      refine hints.mono ?_
      rintro e w10 ⟨rfl, hb10⟩
      have HQ10 : Hid (QW w0 L E1 p1 a1 E1.length c1 w10) := HQ9.out.step hb10
      have HV10 : Hid (SV L gs what (u : Nat) y w10) := HV9.out.step hb10
      clear hints hb10 HQ9 HV9
      have s1 := HV10.out.c1
      have hsize := size_tree HQ10.out.f u hu xs.length (by rw [HX.out])
      go_wp2_with fail
      refine hsize.mono ?_
      rintro e w11 ⟨rfl, hb11⟩
      have HQ11 : Hid (QW w0 L E1 p1 a1 E1.length c1 w11) := HQ10.out.step hb11
      clear hsize hb11 s1 HQ10 HV10
      go_wp2_with fail
      refine (error_any (n := 0) ⟨Or.inl ⟨rfl, rfl⟩⟩ (h0.below HQ11.out.below)).mono ?_
      rintro e w12 ⟨rfl, hb12⟩
      have HQ12 : Hid (QW w0 L E1 p1 a1 E1.length c1 w12) := HQ11.out.step hb12
      clear hb12 HQ11
      have hed := fedges_any HQ12.out.f
      go_wp2_with fail
      refine hed.mono ?_
      rintro e w13 ⟨a13, c13, rfl, hb13, hE13, -, -, -⟩
      have HQ13 : Hid (QW w0 L E1 p1 a1 E1.length c1 w13) := HQ12.out.step hb13
      have hsame := edges_same (cap := c13) (cap' := c1) rfl hE13 HQ13.out.list (by have := HQ13.out.small; omega)
      clear hed hb13 hE13 HQ12
      go_wp2_with fail
      refine hsame.mono ?_
      rintro e w14 ⟨rfl, hb14⟩
      have HQ14 : Hid (QW w0 L E1 p1 a1 E1.length c1 w14) := HQ13.out.step hb14
      clear hsame hb14 HQ13
      go_wp2_with fail
      rw [show ((m : Int) + 1) = ((m + 1 : Nat) : Int) from by omega]
      exact HK.out _ _ (tp_intro _ _ _ _ _ (by omega) HQ14.out rfl)
  · obtain ⟨qb, hqb⟩ : ∃ qb : Bool, qb = true ↔ (0 ≤ y ∧ y < (L.n : Int)) := ⟨decide (0 ≤ y ∧ y < (L.n : Int)), by simp⟩
    have HIn : Hid (¬ ((0 ≤ x ∧ x < (L.n : Int)) ∧ 0 ≤ y ∧ y < (L.n : Int))) := fun h => hqa h.1
    conv => arg 2; whnf
    go_wp2_with fail
    refine (node_any (L.n : Nat) x _ false (by simpa using hqa)).mono ?_
    rintro e w1 ⟨rfl, rfl⟩
    have hbA : Below w.heap.size w (w.alloc (.cells #[.int .i64 what, .int .i64 x, .int .i64 y, .slice al3 nl3 cl3] 34)) := (Below.refl _ _).alloc (Nat.le_refl _) _
    have HV1 : Hid (SV L w.heap.size what x y (w.alloc (.cells #[.int .i64 what, .int .i64 x, .int .i64 y, .slice al3 nl3 cl3] 34))) := ⟨by simp, by simp, by simp, fun hk => by have := HQ.out.f.foot_lt hk; omega⟩
    have HQ1 : Hid (QW w0 L E p a N c (w.alloc (.cells #[.int .i64 what, .int .i64 x, .int .i64 y, .slice al3 nl3 cl3] 34))) := HQ.out.step hbA
    generalize (w.alloc (.cells #[.int .i64 what, .int .i64 x, .int .i64 y, .slice al3 nl3 cl3] 34)) = w1 at *
    generalize w.heap.size = gs at *
    clear k0 k1 k2 k3 hbA
    have s0 := HV1.out.c0
    have s1 := HV1.out.c1
    have s2 := HV1.out.c2
    go_wp2_with fail
    refine (node_any (L.n : Nat) y _ qb (by exact hqb)).mono ?_
    rintro e w2 ⟨rfl, rfl⟩
    have hparts := parts_of (c := c) HQ1.out.list HQ1.out.len (by have := HQ1.out.small; omega) L.n (by have := HQ1.out.n60; omega) HQ1.out.n60.1 HQ1.out.f.grown.among HQ1.out.f.grown.rest
    go_wp2_with fail
    refine hparts.mono ?_
    rintro e w3 ⟨kp, cp, rfl, hb3, -, hcp⟩
    have HQ3 : Hid (QW w0 L E p a N c w3) := HQ1.out.step hb3
    have HV3 : Hid (SV L gs what x y w3) := HV1.out.step hb3
    have HP3 : Hid (∀ i, i < L.n → w3.cell? ⟨kp, i, none⟩ = some (.int .i64 (p i : Nat))) := hcp
    clear hparts hb3 hcp s0 s1 s2
    have s0 := HV3.out.c0
    have s1 := HV3.out.c1
    have s2 := HV3.out.c2
    have hpl := place_ref (c := c) HQ3.out.list HQ3.out.len (by have := HQ3.out.small; omega) x y
    go_wp2_with fail
    refine hpl.mono ?_
    rintro e w4 ⟨k, rfl, hb4, hk⟩
    have HQ4 : Hid (QW w0 L E p a N c w4) := HQ3.out.step hb4
    have HV4 : Hid (SV L gs what x y w4) := HV3.out.step hb4
    have HP4 : Hid (∀ i, i < L.n → w4.cell? ⟨kp, i, none⟩ = some (.int .i64 (p i : Nat))) := fun i hi => cell_keep hb4 (HP3.out i hi)
    have HK4 : Hid ((∃ j : Nat, j < N ∧ k = j ∧ IsOf (E.getD j (0, 0)) x y) ∨ (k = -1 ∧ ∀ e ∈ E, ¬ IsOf e x y)) := hk
    clear hpl hb4 hk s0 s1 s2
    have s0 := HV4.out.c0
    go_upto_block 2 with fail
    refine wp_mono (Q := fun e A w' => e = .normal ∧ Aft w0 L (some ⟨b, o, none⟩) la ca m gs false what x y A w') ?hsw ?_
    case hsw => exact sw_any (p := p) (E := E) h0 HQ4.out HV4.out HP4.out (Or.inr ⟨HIn.out, rfl⟩) HK4.out rfl
    rintro e A w5 ⟨rfl, U5, E1, p1, a1, N1, c1, hq5, hv5, rfl⟩
    obtain rfl := hq5.len
    have HQ5 : Hid (QW w0 L E1 p1 a1 E1.length c1 w5) := hq5
    have HV5 : Hid (SV L gs what x y w5) := hv5
    clear hq5 hv5 s0 HQ HQ1 HV1 HQ3 HV3 HP3 HQ4 HV4 HP4 HK4
    have hparts := parts_of (c := c1) HQ5.out.list rfl (by have := HQ5.out.small; omega) L.n (by have := HQ5.out.n60; omega) HQ5.out.n60.1 HQ5.out.f.grown.among HQ5.out.f.grown.rest
    go_wp2_with fail
    refine hparts.mono ?_
    rintro e w6 ⟨kq, cq, rfl, hb6, -, hcq⟩
    have HQ6 : Hid (QW w0 L E1 p1 a1 E1.length c1 w6) := HQ5.out.step hb6
    have HV6 : Hid (SV L gs what x y w6) := HV5.out.step hb6
    have HP6 : Hid (∀ i, i < L.n → w6.cell? ⟨kq, i, none⟩ = some (.int .i64 (p1 i : Nat))) := hcq
    clear hparts hb6 hcq HQ5 HV5
    have hqx : ¬ (0 ≤ x ∧ x < (L.n : Int)) := hqa
    have s1 := HV6.out.c1
    have hmem := members_no HQ6.out.f x hqx
    go_wp2_with fail
    refine hmem.mono ?_
    rintro e w8 ⟨rfl, hb8⟩
    have HQ8 : Hid (QW w0 L E1 p1 a1 E1.length c1 w8) := HQ6.out.step hb8
    have HV8 : Hid (SV L gs what x y w8) := HV6.out.step hb8
    clear hmem hb8 s1 HQ6 HV6 HP6
    go_wp2_with fail
    refine (error_any (n := 1) ⟨Or.inr rfl⟩ (h0.below HQ8.out.below)).mono ?_
    rintro e w9 ⟨rfl, hb9⟩
    have HQ9 : Hid (QW w0 L E1 p1 a1 E1.length c1 w9) := HQ8.out.step hb9
    have HV9 : Hid (SV L gs what x y w9) := HV8.out.step hb9
    have hnil : IntsAt w9 none 0 0 [] := ⟨rfl, Nat.le_refl _, fun i hi => absurd hi (Nat.not_lt_zero _)⟩
    have hints := ints_any hnil hnil (by omega)
    clear hb9 HQ8 HV8 hnil
    go_wp2_with fail
    refine hints.mono ?_
    rintro e w10 ⟨rfl, hb10⟩
    have HQ10 : Hid (QW w0 L E1 p1 a1 E1.length c1 w10) := HQ9.out.step hb10
    have HV10 : Hid (SV L gs what x y w10) := HV9.out.step hb10
    clear hints hb10 HQ9 HV9
    have s1 := HV10.out.c1
    have hsize := size_no HQ10.out.f x hqx
    go_wp2_with fail
    refine hsize.mono ?_
    rintro e w11 ⟨rfl, hb11⟩
    have HQ11 : Hid (QW w0 L E1 p1 a1 E1.length c1 w11) := HQ10.out.step hb11
    clear hsize hb11 s1 HQ10 HV10
    go_wp2_with fail
    refine (error_any (n := 1) ⟨Or.inr rfl⟩ (h0.below HQ11.out.below)).mono ?_
    rintro e w12 ⟨rfl, hb12⟩
    have HQ12 : Hid (QW w0 L E1 p1 a1 E1.length c1 w12) := HQ11.out.step hb12
    clear hb12 HQ11
    have hed := fedges_any HQ12.out.f
    go_wp2_with fail
    refine hed.mono ?_
    rintro e w13 ⟨a13, c13, rfl, hb13, hE13, -, -, -⟩
    have HQ13 : Hid (QW w0 L E1 p1 a1 E1.length c1 w13) := HQ12.out.step hb13
    have hsame := edges_same (cap := c13) (cap' := c1) rfl hE13 HQ13.out.list (by have := HQ13.out.small; omega)
    clear hed hb13 hE13 HQ12
    go_wp2_with fail
    refine hsame.mono ?_
    rintro e w14 ⟨rfl, hb14⟩
    have HQ14 : Hid (QW w0 L E1 p1 a1 E1.length c1 w14) := HQ13.out.step hb14
    clear hsame hb14 HQ13
    go_wp2_with fail
    rw [show ((m : Int) + 1) = ((m + 1 : Nat) : Int) from by omega]
    exact HK.out _ _ (tp_intro _ _ _ _ _ (by omega) HQ14.out rfl)

set_option maxRecDepth 1000000 in
set_option maxHeartbeats 4000000 in
theorem tp_end {w0 : World} {L : Pl} {al : Option Addr} {la ca : Nat} {m : Nat} {U : Nat → Value} {w : World} {E : List (Nat × Nat)} {p : Nat → Nat} {a : Option Addr} {N c : Nat} (h0 : ErrType w0) (hs : S4 w0 al la) (hend : m = min la 60) (hf : QW w0 L E p a N c w) (K : Act → World → Prop) (Q : Exit → Act → World → Prop) (hQ : ∀ A w', tpI w0 L al la ca (min la 60) A w' → Q (.exit 0) A w') :
    (loopAt Tryz.f3 0).wp Tryz.prog (Exit.then K Q) ⟨#[.int .i64 (L.n : Nat), .slice al la ca, U 2, U 3, U 4, U 5, .pointer (some ⟨L.g, 0, none⟩), U 7, U 8, .slice a N c, .int .i64 (m : Nat), U 11, U 12, U 13, U 14, U 15, U 16, U 17, U 18, U 19, U 20, U 21, U 22, U 23, U 24, U 25, U 26, U 27, U 28, U 29, U 30, U 31, U 32, U 33, U 34, U 35, U 36, U 37, U 38, U 39, U 40, U 41, U 42, U 43, U 44, U 45, U 46, U 47, U 48, U 49, U 50, U 51, U 52, U 53, U 54, U 55, U 56, U 57, U 58, U 59, U 60, U 61, U 62, U 63, U 64, U 65, U 66, U 67, U 68, U 69, U 70, U 71, U 72, U 73, U 74, U 75, U 76, U 77, U 78, U 79, U 80, U 81, U 82, U 83, U 84, U 85, U 86, U 87, U 88, U 89, U 90, U 91, U 92, U 93, U 94, U 95, U 96, U 97, U 98, U 99, U 100, U 101, U 102, U 103, U 104, U 105, U 106, U 107, U 108, U 109, U 110, U 111, U 112, U 113, U 114, U 115, U 116, U 117, U 118, U 119, U 120, U 121, U 122, U 123, U 124, U 125, U 126, U 127, U 128, U 129, U 130, U 131, U 132, U 133, U 134, U 135, U 136, U 137, U 138, U 139, U 140, U 141, U 142, U 143, U 144, U 145, U 146, U 147, U 148, U 149, U 150, U 151, U 152, U 153, U 154, U 155, U 156, U 157, U 158, U 159, U 160, U 161, U 162, U 163, U 164, U 165, U 166, U 167, U 168, U 169, U 170, U 171, U 172, U 173, U 174, U 175, U 176, U 177, U 178, U 179, U 180, U 181, U 182, U 183, U 184, U 185, U 186, U 187, U 188, U 189, U 190, U 191, U 192, U 193, U 194, U 195, U 196, U 197, U 198, U 199, U 200, U 201, U 202, U 203, U 204, U 205, U 206, U 207, U 208, U 209, U 210, U 211, U 212, U 213, U 214, U 215, U 216, U 217, U 218, U 219, U 220, U 221, U 222, U 223, U 224, U 225, U 226, U 227, U 228, U 229, U 230, U 231, U 232, U 233, U 234, U 235, U 236, U 237, U 238, U 239, U 240, U 241, U 242, U 243, U 244], []⟩ w := by
  have HQ : Hid (∀ A w', tpI w0 L al la ca m A w' → Q (.exit 0) A w') := fun A w' h => hQ A w' (by rw [hend] at h; exact h)
  have h1 : m ≤ min la 60 := by omega
  have HF : Hid (QW w0 L E p a N c w) := hf
  clear hQ hf
  have hnl : ¬ m < min la 60 := by omega
  clear hend
  by_cases hl : m < la
  · have e60 : ¬ m < 60 := by omega
    clear hnl
    conv => arg 2; whnf
    go_wp2_with fail
    exact HQ.out _ _ (tp_intro _ _ _ _ _ h1 HF.out rfl)
  · clear hnl
    conv => arg 2; whnf
    go_wp2_with fail
    exact HQ.out _ _ (tp_intro _ _ _ _ _ h1 HF.out rfl)

/-- How many rounds are still to come, at most. -/
def tp_togo (B : Nat) (A : Act) (_w : World) : Nat := B - (intOf (A.tmps.getD 10 undef)).toNat

set_option maxRecDepth 1000000 in
theorem tp_togo_is {w0 : World} {L : Pl} {al : Option Addr} {la ca : Nat} {m : Nat} {A : Act} {w : World} (h : tpI w0 L al la ca m A w) : tp_togo (min la 60) A w = min la 60 - m := by
  obtain ⟨U, E, p, a, N, c,  _, _, rfl⟩ := h
  show min la 60 - ((m : Nat) : Int).toNat = min la 60 - m
  omega

theorem tp_round {w0 : World} {L : Pl} {al : Option Addr} {la ca : Nat} (h0 : ErrType w0) (hs : S4 w0 al la) (Q : Exit → Act → World → Prop) (hQ : ∀ A w', tpI w0 L al la ca (min la 60) A w' → Q (.exit 0) A w') (A : Act) (w : World) (h : ∃ m, tpI w0 L al la ca m A w) :
    (loopAt Tryz.f3 0).wp Tryz.prog (Exit.then (fun A' w' => (∃ m, tpI w0 L al la ca m A' w') ∧ tp_togo (min la 60) A' w' < tp_togo (min la 60) A w) Q) A w := by
  obtain ⟨m, hI⟩ := h
  have ht := tp_togo_is hI
  obtain ⟨U, E, p, a, N, c,  h1, hf, rfl⟩ := hI
  by_cases hend : m = min la 60
  · exact tp_end h0 hs hend hf _ _ hQ
  · refine tp_go h0 hs (by omega) hf _ _ fun A' w' h' => ⟨⟨m + 1, h'⟩, ?_⟩
    rw [tp_togo_is h', ht]
    omega

set_option maxRecDepth 1000000 in
theorem tp_loop {w0 : World} {L : Pl} {al : Option Addr} {la ca : Nat} (h0 : ErrType w0) (hs : S4 w0 al la) {w : World} {E : List (Nat × Nat)} {p : Nat → Nat} {a : Option Addr} {N c : Nat} (hf : QW w0 L E p a N c w) (Q : Exit → Act → World → Prop) (hQ : ∀ A w', tpI w0 L al la ca (min la 60) A w' → Q (.exit 0) A w') {A : Act} (hA : A = ⟨#[.int .i64 (L.n : Nat), .slice al la ca, A.tmps.getD 2 undef, A.tmps.getD 3 undef, A.tmps.getD 4 undef, A.tmps.getD 5 undef, .pointer (some ⟨L.g, 0, none⟩), A.tmps.getD 7 undef, A.tmps.getD 8 undef, .slice a N c, .int .i64 0, A.tmps.getD 11 undef, A.tmps.getD 12 undef, A.tmps.getD 13 undef, A.tmps.getD 14 undef, A.tmps.getD 15 undef, A.tmps.getD 16 undef, A.tmps.getD 17 undef, A.tmps.getD 18 undef, A.tmps.getD 19 undef, A.tmps.getD 20 undef, A.tmps.getD 21 undef, A.tmps.getD 22 undef, A.tmps.getD 23 undef, A.tmps.getD 24 undef, A.tmps.getD 25 undef, A.tmps.getD 26 undef, A.tmps.getD 27 undef, A.tmps.getD 28 undef, A.tmps.getD 29 undef, A.tmps.getD 30 undef, A.tmps.getD 31 undef, A.tmps.getD 32 undef, A.tmps.getD 33 undef, A.tmps.getD 34 undef, A.tmps.getD 35 undef, A.tmps.getD 36 undef, A.tmps.getD 37 undef, A.tmps.getD 38 undef, A.tmps.getD 39 undef, A.tmps.getD 40 undef, A.tmps.getD 41 undef, A.tmps.getD 42 undef, A.tmps.getD 43 undef, A.tmps.getD 44 undef, A.tmps.getD 45 undef, A.tmps.getD 46 undef, A.tmps.getD 47 undef, A.tmps.getD 48 undef, A.tmps.getD 49 undef, A.tmps.getD 50 undef, A.tmps.getD 51 undef, A.tmps.getD 52 undef, A.tmps.getD 53 undef, A.tmps.getD 54 undef, A.tmps.getD 55 undef, A.tmps.getD 56 undef, A.tmps.getD 57 undef, A.tmps.getD 58 undef, A.tmps.getD 59 undef, A.tmps.getD 60 undef, A.tmps.getD 61 undef, A.tmps.getD 62 undef, A.tmps.getD 63 undef, A.tmps.getD 64 undef, A.tmps.getD 65 undef, A.tmps.getD 66 undef, A.tmps.getD 67 undef, A.tmps.getD 68 undef, A.tmps.getD 69 undef, A.tmps.getD 70 undef, A.tmps.getD 71 undef, A.tmps.getD 72 undef, A.tmps.getD 73 undef, A.tmps.getD 74 undef, A.tmps.getD 75 undef, A.tmps.getD 76 undef, A.tmps.getD 77 undef, A.tmps.getD 78 undef, A.tmps.getD 79 undef, A.tmps.getD 80 undef, A.tmps.getD 81 undef, A.tmps.getD 82 undef, A.tmps.getD 83 undef, A.tmps.getD 84 undef, A.tmps.getD 85 undef, A.tmps.getD 86 undef, A.tmps.getD 87 undef, A.tmps.getD 88 undef, A.tmps.getD 89 undef, A.tmps.getD 90 undef, A.tmps.getD 91 undef, A.tmps.getD 92 undef, A.tmps.getD 93 undef, A.tmps.getD 94 undef, A.tmps.getD 95 undef, A.tmps.getD 96 undef, A.tmps.getD 97 undef, A.tmps.getD 98 undef, A.tmps.getD 99 undef, A.tmps.getD 100 undef, A.tmps.getD 101 undef, A.tmps.getD 102 undef, A.tmps.getD 103 undef, A.tmps.getD 104 undef, A.tmps.getD 105 undef, A.tmps.getD 106 undef, A.tmps.getD 107 undef, A.tmps.getD 108 undef, A.tmps.getD 109 undef, A.tmps.getD 110 undef, A.tmps.getD 111 undef, A.tmps.getD 112 undef, A.tmps.getD 113 undef, A.tmps.getD 114 undef, A.tmps.getD 115 undef, A.tmps.getD 116 undef, A.tmps.getD 117 undef, A.tmps.getD 118 undef, A.tmps.getD 119 undef, A.tmps.getD 120 undef, A.tmps.getD 121 undef, A.tmps.getD 122 undef, A.tmps.getD 123 undef, A.tmps.getD 124 undef, A.tmps.getD 125 undef, A.tmps.getD 126 undef, A.tmps.getD 127 undef, A.tmps.getD 128 undef, A.tmps.getD 129 undef, A.tmps.getD 130 undef, A.tmps.getD 131 undef, A.tmps.getD 132 undef, A.tmps.getD 133 undef, A.tmps.getD 134 undef, A.tmps.getD 135 undef, A.tmps.getD 136 undef, A.tmps.getD 137 undef, A.tmps.getD 138 undef, A.tmps.getD 139 undef, A.tmps.getD 140 undef, A.tmps.getD 141 undef, A.tmps.getD 142 undef, A.tmps.getD 143 undef, A.tmps.getD 144 undef, A.tmps.getD 145 undef, A.tmps.getD 146 undef, A.tmps.getD 147 undef, A.tmps.getD 148 undef, A.tmps.getD 149 undef, A.tmps.getD 150 undef, A.tmps.getD 151 undef, A.tmps.getD 152 undef, A.tmps.getD 153 undef, A.tmps.getD 154 undef, A.tmps.getD 155 undef, A.tmps.getD 156 undef, A.tmps.getD 157 undef, A.tmps.getD 158 undef, A.tmps.getD 159 undef, A.tmps.getD 160 undef, A.tmps.getD 161 undef, A.tmps.getD 162 undef, A.tmps.getD 163 undef, A.tmps.getD 164 undef, A.tmps.getD 165 undef, A.tmps.getD 166 undef, A.tmps.getD 167 undef, A.tmps.getD 168 undef, A.tmps.getD 169 undef, A.tmps.getD 170 undef, A.tmps.getD 171 undef, A.tmps.getD 172 undef, A.tmps.getD 173 undef, A.tmps.getD 174 undef, A.tmps.getD 175 undef, A.tmps.getD 176 undef, A.tmps.getD 177 undef, A.tmps.getD 178 undef, A.tmps.getD 179 undef, A.tmps.getD 180 undef, A.tmps.getD 181 undef, A.tmps.getD 182 undef, A.tmps.getD 183 undef, A.tmps.getD 184 undef, A.tmps.getD 185 undef, A.tmps.getD 186 undef, A.tmps.getD 187 undef, A.tmps.getD 188 undef, A.tmps.getD 189 undef, A.tmps.getD 190 undef, A.tmps.getD 191 undef, A.tmps.getD 192 undef, A.tmps.getD 193 undef, A.tmps.getD 194 undef, A.tmps.getD 195 undef, A.tmps.getD 196 undef, A.tmps.getD 197 undef, A.tmps.getD 198 undef, A.tmps.getD 199 undef, A.tmps.getD 200 undef, A.tmps.getD 201 undef, A.tmps.getD 202 undef, A.tmps.getD 203 undef, A.tmps.getD 204 undef, A.tmps.getD 205 undef, A.tmps.getD 206 undef, A.tmps.getD 207 undef, A.tmps.getD 208 undef, A.tmps.getD 209 undef, A.tmps.getD 210 undef, A.tmps.getD 211 undef, A.tmps.getD 212 undef, A.tmps.getD 213 undef, A.tmps.getD 214 undef, A.tmps.getD 215 undef, A.tmps.getD 216 undef, A.tmps.getD 217 undef, A.tmps.getD 218 undef, A.tmps.getD 219 undef, A.tmps.getD 220 undef, A.tmps.getD 221 undef, A.tmps.getD 222 undef, A.tmps.getD 223 undef, A.tmps.getD 224 undef, A.tmps.getD 225 undef, A.tmps.getD 226 undef, A.tmps.getD 227 undef, A.tmps.getD 228 undef, A.tmps.getD 229 undef, A.tmps.getD 230 undef, A.tmps.getD 231 undef, A.tmps.getD 232 undef, A.tmps.getD 233 undef, A.tmps.getD 234 undef, A.tmps.getD 235 undef, A.tmps.getD 236 undef, A.tmps.getD 237 undef, A.tmps.getD 238 undef, A.tmps.getD 239 undef, A.tmps.getD 240 undef, A.tmps.getD 241 undef, A.tmps.getD 242 undef, A.tmps.getD 243 undef, A.tmps.getD 244 undef], []⟩) : (Code.loop (loopAt Tryz.f3 0)).wp Tryz.prog Q A w :=
  wp_loop (fun A w => ∃ m, tpI w0 L al la ca m A w) (tp_togo (min la 60)) ⟨0, tp_intro _ _ _ _ _ (Nat.zero_le _) hf hA⟩ (fun A w' h => tp_round h0 hs Q hQ A w' h)

end Go.Proofs.YtdlnbeoccakleaaGreatDoor
