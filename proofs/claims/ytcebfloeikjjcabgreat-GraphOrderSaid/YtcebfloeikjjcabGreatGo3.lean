/-
  GraphOrder: the loop over the extra edges.
-/
import Derived.Test.YtcebfloeikjjcabGreatGo1
namespace Go.Proofs.YtcebfloeikjjcabGreat.Gr
open Go.RowKit Go.Deep Go.Maps
open Go.RowKit (Below)
set_option linter.unusedVariables false

theorem two_here (w : World) (x y : Nat) : ∀ j u, (two (x, y))[j]? = some u → (w.alloc (.cells #[.int .i64 (x : Int), .int .i64 (y : Int)] 41)).cell? (Addr.add ⟨w.heap.size, 0, none⟩ j) = some u := fun j u hj => by
  match j, hj with
  | 0, hj => cases hj; simp [Addr.add]
  | 1, hj => cases hj; simp [Addr.add]


set_option maxRecDepth 1000000 in
/-- Where the loop stands. -/
def obI (wH : World) (H : GPl) (hb0 : Nat) (AE : List (Nat × Nat)) (aA am : Option Addr) (NA cA lm cm : Nat) (c9 : Value) (m : Nat) (A : Act) (w : World) : Prop :=
  ∃ (U : Nat → Value) (ss : List (Nat × Nat)) (v : Value), m ≤ min lm 20 ∧ (OW wH H hb0 (fun e => e ∈ ss) (ss).length (ss) v w ∧ (ss).Nodup ∧ (∀ e ∈ ss, e ∉ AE) ∧ (ss).length ≤ m) ∧ A = ⟨#[.int .i64 (H.n : Nat), U 1, .slice am lm cm, U 3, U 4, U 5, U 6, U 7, U 8, c9, U 10, U 11, .slice aA NA cA, .pointer (some ⟨H.g, 0, none⟩), v, .int .i64 (m : Nat), U 16, U 17, U 18, U 19, U 20, U 21, U 22, U 23, U 24, U 25, U 26, U 27, U 28, U 29, U 30, U 31, U 32, U 33, U 34, U 35, U 36, U 37, U 38, U 39, U 40, U 41, U 42, U 43, U 44, U 45, U 46, U 47, U 48, U 49, U 50, U 51, U 52, U 53, U 54, U 55, U 56, U 57, U 58, U 59, U 60, U 61, U 62, U 63, U 64, U 65, U 66, U 67, U 68, U 69, U 70, U 71, U 72, U 73, U 74, U 75, U 76, U 77, U 78, U 79, U 80, U 81, U 82, U 83, U 84, U 85, U 86, U 87, U 88, U 89, U 90, U 91, U 92, U 93, U 94, U 95, U 96, U 97, U 98, U 99, U 100, U 101, U 102, U 103, U 104, U 105, U 106, U 107, U 108, U 109, U 110, U 111, U 112, U 113, U 114, U 115, U 116, U 117, U 118, U 119, U 120, U 121, U 122, U 123, U 124, U 125, U 126, U 127, U 128, U 129, U 130, U 131, U 132, U 133, U 134, U 135, U 136, U 137, U 138, U 139, U 140, U 141, U 142, U 143, U 144, U 145, U 146, U 147, U 148, U 149, U 150, U 151, U 152, U 153, U 154, U 155, U 156, U 157, U 158, U 159, U 160, U 161, U 162, U 163, U 164, U 165, U 166, U 167, U 168, U 169, U 170, U 171, U 172, U 173, U 174, U 175, U 176, U 177, U 178, U 179, U 180, U 181, U 182, U 183, U 184, U 185, U 186, U 187, U 188, U 189, U 190, U 191, U 192, U 193, U 194, U 195, U 196, U 197, U 198, U 199, U 200, U 201, U 202, U 203, U 204, U 205, U 206, U 207, U 208, U 209, U 210, U 211, U 212, U 213, U 214, U 215, U 216, U 217, U 218, U 219, U 220, U 221, U 222, U 223, U 224, U 225, U 226, U 227, U 228, U 229, U 230, U 231, U 232, U 233, U 234, U 235, U 236, U 237, U 238, U 239, U 240, U 241, U 242, U 243, U 244, U 245, U 246, U 247, U 248, U 249, U 250, U 251, U 252, U 253, U 254, U 255, U 256, U 257, U 258, U 259, U 260, U 261, U 262, U 263, U 264, U 265], []⟩

set_option maxRecDepth 1000000 in
theorem ob_intro {wH : World} {H : GPl} {hb0 : Nat} {AE : List (Nat × Nat)} {aA am : Option Addr} {NA cA lm cm : Nat} {c9 : Value} {m : Nat} {A : Act} {w : World} (ss : List (Nat × Nat)) (v : Value) (h1 : m ≤ min lm 20) (hf : (OW wH H hb0 (fun e => e ∈ ss) (ss).length (ss) v w ∧ (ss).Nodup ∧ (∀ e ∈ ss, e ∉ AE) ∧ (ss).length ≤ m)) (h : A = ⟨#[.int .i64 (H.n : Nat), A.tmps.getD 1 undef, .slice am lm cm, A.tmps.getD 3 undef, A.tmps.getD 4 undef, A.tmps.getD 5 undef, A.tmps.getD 6 undef, A.tmps.getD 7 undef, A.tmps.getD 8 undef, c9, A.tmps.getD 10 undef, A.tmps.getD 11 undef, .slice aA NA cA, .pointer (some ⟨H.g, 0, none⟩), v, .int .i64 (m : Nat), A.tmps.getD 16 undef, A.tmps.getD 17 undef, A.tmps.getD 18 undef, A.tmps.getD 19 undef, A.tmps.getD 20 undef, A.tmps.getD 21 undef, A.tmps.getD 22 undef, A.tmps.getD 23 undef, A.tmps.getD 24 undef, A.tmps.getD 25 undef, A.tmps.getD 26 undef, A.tmps.getD 27 undef, A.tmps.getD 28 undef, A.tmps.getD 29 undef, A.tmps.getD 30 undef, A.tmps.getD 31 undef, A.tmps.getD 32 undef, A.tmps.getD 33 undef, A.tmps.getD 34 undef, A.tmps.getD 35 undef, A.tmps.getD 36 undef, A.tmps.getD 37 undef, A.tmps.getD 38 undef, A.tmps.getD 39 undef, A.tmps.getD 40 undef, A.tmps.getD 41 undef, A.tmps.getD 42 undef, A.tmps.getD 43 undef, A.tmps.getD 44 undef, A.tmps.getD 45 undef, A.tmps.getD 46 undef, A.tmps.getD 47 undef, A.tmps.getD 48 undef, A.tmps.getD 49 undef, A.tmps.getD 50 undef, A.tmps.getD 51 undef, A.tmps.getD 52 undef, A.tmps.getD 53 undef, A.tmps.getD 54 undef, A.tmps.getD 55 undef, A.tmps.getD 56 undef, A.tmps.getD 57 undef, A.tmps.getD 58 undef, A.tmps.getD 59 undef, A.tmps.getD 60 undef, A.tmps.getD 61 undef, A.tmps.getD 62 undef, A.tmps.getD 63 undef, A.tmps.getD 64 undef, A.tmps.getD 65 undef, A.tmps.getD 66 undef, A.tmps.getD 67 undef, A.tmps.getD 68 undef, A.tmps.getD 69 undef, A.tmps.getD 70 undef, A.tmps.getD 71 undef, A.tmps.getD 72 undef, A.tmps.getD 73 undef, A.tmps.getD 74 undef, A.tmps.getD 75 undef, A.tmps.getD 76 undef, A.tmps.getD 77 undef, A.tmps.getD 78 undef, A.tmps.getD 79 undef, A.tmps.getD 80 undef, A.tmps.getD 81 undef, A.tmps.getD 82 undef, A.tmps.getD 83 undef, A.tmps.getD 84 undef, A.tmps.getD 85 undef, A.tmps.getD 86 undef, A.tmps.getD 87 undef, A.tmps.getD 88 undef, A.tmps.getD 89 undef, A.tmps.getD 90 undef, A.tmps.getD 91 undef, A.tmps.getD 92 undef, A.tmps.getD 93 undef, A.tmps.getD 94 undef, A.tmps.getD 95 undef, A.tmps.getD 96 undef, A.tmps.getD 97 undef, A.tmps.getD 98 undef, A.tmps.getD 99 undef, A.tmps.getD 100 undef, A.tmps.getD 101 undef, A.tmps.getD 102 undef, A.tmps.getD 103 undef, A.tmps.getD 104 undef, A.tmps.getD 105 undef, A.tmps.getD 106 undef, A.tmps.getD 107 undef, A.tmps.getD 108 undef, A.tmps.getD 109 undef, A.tmps.getD 110 undef, A.tmps.getD 111 undef, A.tmps.getD 112 undef, A.tmps.getD 113 undef, A.tmps.getD 114 undef, A.tmps.getD 115 undef, A.tmps.getD 116 undef, A.tmps.getD 117 undef, A.tmps.getD 118 undef, A.tmps.getD 119 undef, A.tmps.getD 120 undef, A.tmps.getD 121 undef, A.tmps.getD 122 undef, A.tmps.getD 123 undef, A.tmps.getD 124 undef, A.tmps.getD 125 undef, A.tmps.getD 126 undef, A.tmps.getD 127 undef, A.tmps.getD 128 undef, A.tmps.getD 129 undef, A.tmps.getD 130 undef, A.tmps.getD 131 undef, A.tmps.getD 132 undef, A.tmps.getD 133 undef, A.tmps.getD 134 undef, A.tmps.getD 135 undef, A.tmps.getD 136 undef, A.tmps.getD 137 undef, A.tmps.getD 138 undef, A.tmps.getD 139 undef, A.tmps.getD 140 undef, A.tmps.getD 141 undef, A.tmps.getD 142 undef, A.tmps.getD 143 undef, A.tmps.getD 144 undef, A.tmps.getD 145 undef, A.tmps.getD 146 undef, A.tmps.getD 147 undef, A.tmps.getD 148 undef, A.tmps.getD 149 undef, A.tmps.getD 150 undef, A.tmps.getD 151 undef, A.tmps.getD 152 undef, A.tmps.getD 153 undef, A.tmps.getD 154 undef, A.tmps.getD 155 undef, A.tmps.getD 156 undef, A.tmps.getD 157 undef, A.tmps.getD 158 undef, A.tmps.getD 159 undef, A.tmps.getD 160 undef, A.tmps.getD 161 undef, A.tmps.getD 162 undef, A.tmps.getD 163 undef, A.tmps.getD 164 undef, A.tmps.getD 165 undef, A.tmps.getD 166 undef, A.tmps.getD 167 undef, A.tmps.getD 168 undef, A.tmps.getD 169 undef, A.tmps.getD 170 undef, A.tmps.getD 171 undef, A.tmps.getD 172 undef, A.tmps.getD 173 undef, A.tmps.getD 174 undef, A.tmps.getD 175 undef, A.tmps.getD 176 undef, A.tmps.getD 177 undef, A.tmps.getD 178 undef, A.tmps.getD 179 undef, A.tmps.getD 180 undef, A.tmps.getD 181 undef, A.tmps.getD 182 undef, A.tmps.getD 183 undef, A.tmps.getD 184 undef, A.tmps.getD 185 undef, A.tmps.getD 186 undef, A.tmps.getD 187 undef, A.tmps.getD 188 undef, A.tmps.getD 189 undef, A.tmps.getD 190 undef, A.tmps.getD 191 undef, A.tmps.getD 192 undef, A.tmps.getD 193 undef, A.tmps.getD 194 undef, A.tmps.getD 195 undef, A.tmps.getD 196 undef, A.tmps.getD 197 undef, A.tmps.getD 198 undef, A.tmps.getD 199 undef, A.tmps.getD 200 undef, A.tmps.getD 201 undef, A.tmps.getD 202 undef, A.tmps.getD 203 undef, A.tmps.getD 204 undef, A.tmps.getD 205 undef, A.tmps.getD 206 undef, A.tmps.getD 207 undef, A.tmps.getD 208 undef, A.tmps.getD 209 undef, A.tmps.getD 210 undef, A.tmps.getD 211 undef, A.tmps.getD 212 undef, A.tmps.getD 213 undef, A.tmps.getD 214 undef, A.tmps.getD 215 undef, A.tmps.getD 216 undef, A.tmps.getD 217 undef, A.tmps.getD 218 undef, A.tmps.getD 219 undef, A.tmps.getD 220 undef, A.tmps.getD 221 undef, A.tmps.getD 222 undef, A.tmps.getD 223 undef, A.tmps.getD 224 undef, A.tmps.getD 225 undef, A.tmps.getD 226 undef, A.tmps.getD 227 undef, A.tmps.getD 228 undef, A.tmps.getD 229 undef, A.tmps.getD 230 undef, A.tmps.getD 231 undef, A.tmps.getD 232 undef, A.tmps.getD 233 undef, A.tmps.getD 234 undef, A.tmps.getD 235 undef, A.tmps.getD 236 undef, A.tmps.getD 237 undef, A.tmps.getD 238 undef, A.tmps.getD 239 undef, A.tmps.getD 240 undef, A.tmps.getD 241 undef, A.tmps.getD 242 undef, A.tmps.getD 243 undef, A.tmps.getD 244 undef, A.tmps.getD 245 undef, A.tmps.getD 246 undef, A.tmps.getD 247 undef, A.tmps.getD 248 undef, A.tmps.getD 249 undef, A.tmps.getD 250 undef, A.tmps.getD 251 undef, A.tmps.getD 252 undef, A.tmps.getD 253 undef, A.tmps.getD 254 undef, A.tmps.getD 255 undef, A.tmps.getD 256 undef, A.tmps.getD 257 undef, A.tmps.getD 258 undef, A.tmps.getD 259 undef, A.tmps.getD 260 undef, A.tmps.getD 261 undef, A.tmps.getD 262 undef, A.tmps.getD 263 undef, A.tmps.getD 264 undef, A.tmps.getD 265 undef], []⟩) : obI wH H hb0 AE aA am NA cA lm cm c9 m A w :=
  ⟨fun k => A.tmps.getD k undef, ss, v,  h1, hf, h⟩

set_option maxRecDepth 1000000 in
set_option maxHeartbeats 20000000 in
theorem ob_go {wH : World} {H : GPl} {hb0 : Nat} {AE : List (Nat × Nat)} {aA am : Option Addr} {NA cA lm cm : Nat} {c9 : Value} {m : Nat} {U : Nat → Value} {w : World} {ss : List (Nat × Nat)} {v : Value} (hs : Script4 wH am lm) (hA : EdgesAt wH aA AE) (la : AE.length = NA) (hl : NA ≤ 60) (hm : m < min lm 20) (hf : (OW wH H hb0 (fun e => e ∈ ss) (ss).length (ss) v w ∧ (ss).Nodup ∧ (∀ e ∈ ss, e ∉ AE) ∧ (ss).length ≤ m)) (K : Act → World → Prop) (Q : Exit → Act → World → Prop) (hK : ∀ A w', obI wH H hb0 AE aA am NA cA lm cm c9 (m + 1) A w' → K A w') :
    (loopAt Tryz.f4 1).wp Tryz.prog (Exit.then K Q) ⟨#[.int .i64 (H.n : Nat), U 1, .slice am lm cm, U 3, U 4, U 5, U 6, U 7, U 8, c9, U 10, U 11, .slice aA NA cA, .pointer (some ⟨H.g, 0, none⟩), v, .int .i64 (m : Nat), U 16, U 17, U 18, U 19, U 20, U 21, U 22, U 23, U 24, U 25, U 26, U 27, U 28, U 29, U 30, U 31, U 32, U 33, U 34, U 35, U 36, U 37, U 38, U 39, U 40, U 41, U 42, U 43, U 44, U 45, U 46, U 47, U 48, U 49, U 50, U 51, U 52, U 53, U 54, U 55, U 56, U 57, U 58, U 59, U 60, U 61, U 62, U 63, U 64, U 65, U 66, U 67, U 68, U 69, U 70, U 71, U 72, U 73, U 74, U 75, U 76, U 77, U 78, U 79, U 80, U 81, U 82, U 83, U 84, U 85, U 86, U 87, U 88, U 89, U 90, U 91, U 92, U 93, U 94, U 95, U 96, U 97, U 98, U 99, U 100, U 101, U 102, U 103, U 104, U 105, U 106, U 107, U 108, U 109, U 110, U 111, U 112, U 113, U 114, U 115, U 116, U 117, U 118, U 119, U 120, U 121, U 122, U 123, U 124, U 125, U 126, U 127, U 128, U 129, U 130, U 131, U 132, U 133, U 134, U 135, U 136, U 137, U 138, U 139, U 140, U 141, U 142, U 143, U 144, U 145, U 146, U 147, U 148, U 149, U 150, U 151, U 152, U 153, U 154, U 155, U 156, U 157, U 158, U 159, U 160, U 161, U 162, U 163, U 164, U 165, U 166, U 167, U 168, U 169, U 170, U 171, U 172, U 173, U 174, U 175, U 176, U 177, U 178, U 179, U 180, U 181, U 182, U 183, U 184, U 185, U 186, U 187, U 188, U 189, U 190, U 191, U 192, U 193, U 194, U 195, U 196, U 197, U 198, U 199, U 200, U 201, U 202, U 203, U 204, U 205, U 206, U 207, U 208, U 209, U 210, U 211, U 212, U 213, U 214, U 215, U 216, U 217, U 218, U 219, U 220, U 221, U 222, U 223, U 224, U 225, U 226, U 227, U 228, U 229, U 230, U 231, U 232, U 233, U 234, U 235, U 236, U 237, U 238, U 239, U 240, U 241, U 242, U 243, U 244, U 245, U 246, U 247, U 248, U 249, U 250, U 251, U 252, U 253, U 254, U 255, U 256, U 257, U 258, U 259, U 260, U 261, U 262, U 263, U 264, U 265], []⟩ w := by
  have HK : Hid (∀ A w', obI wH H hb0 AE aA am NA cA lm cm c9 (m + 1) A w' → K A w') := hK
  clear hK
  obtain ⟨hm1, hm2⟩ : m < lm ∧ m < 20 := by omega
  obtain ⟨z0, hi0, hz0, hz1, hz2⟩ := info_parts Tryz.infoEdge
  have HF : Hid (OW wH H hb0 (fun e => e ∈ ss) (ss).length (ss) v w.drew ∧ (ss).Nodup ∧ (∀ e ∈ ss, e ∉ AE) ∧ (ss).length ≤ m) := ⟨hf.1.step (Below.refl _ _).drew, hf.2⟩
  obtain ⟨b, o, what, x, y, al, nl, cl, ea, -, q1, q2, -⟩ := hs.step m hm1
  subst ea
  have HB : Hid (Below wH.heap.size wH w.drew) := HF.out.1.below
  have HCells : Hid (∀ W, Below wH.heap.size wH W → W.cell? ⟨b, o + m * 4 + 1, none⟩ = some (.int .i64 x) ∧ W.cell? ⟨b, o + m * 4 + 2, none⟩ = some (.int .i64 y)) := fun W hW => ⟨cell_keep hW q1, cell_keep hW q2⟩
  have k12 := HCells.out _ hf.1.below
  have hpl := place_ref (c := cA) (hA.below HB.out) la (by omega) x y
  have i0 : (0 : Int) ≤ (m : Int) := by omega
  have i1 : (m : Int) < (lm : Int) := by omega
  clear hf q1 q2 hs hA hm
  by_cases hP : ∃ e ∈ AE, IsOf e x y
  · have hpj : Calls Tryz.prog 12 #[.slice aA NA cA, .int .i64 x, .int .i64 y] w.drew fun e w' => (∃ j : Nat, e = .returned (.int .i64 (j : Nat))) ∧ Below w.drew.heap.size w.drew w' := hpl.mono fun e w' h => by
      obtain ⟨r, rfl, hb, ⟨j, hj, rfl, _⟩ | ⟨rfl, hno⟩⟩ := h
      · exact ⟨⟨j, rfl⟩, hb⟩
      · obtain ⟨e, he, h⟩ := hP
        exact absurd h (hno e he)
    clear hpl hP
    conv => arg 2; whnf
    go_wp2_with fail
    refine wp_region_noPanic ?_
    refine wp_region_held_drew (S := fun W => W.cell? ⟨b, o + m * 4 + 1, none⟩ = some (.int .i64 x) ∧ W.cell? ⟨b, o + m * 4 + 2, none⟩ = some (.int .i64 y)) (by kernel_rfl) ?hss (fun hHeld => ?_)
    case hss => exact k12
    refine wpAnyH_take (i := 0) (oi := { dst := some 110, op := Go.Op.move (Go.Operand.tmp 12), type := 31, pos := _, after := #[], guard := none }) (v := ?vs0) rfl (by kernel_rfl) (by kernel_rfl) (by kernel_rfl) (fun _ _ _ h => h) (Or.inl ⟨by rfl, ?ys0⟩) (by assumption) ?_
    case ys0 =>
      intro w hSw
      (try dsimp only at hSw)
      go_simp
      (try with_reducible rfl)
    simp only [Act.put, List.setIfInBounds_toArray, List.set_cons_zero, List.set_cons_succ]
    refine wpAnyH_take (i := 1) (oi := { dst := some 111, op := Go.Op.move (Go.Operand.tmp 2), type := 22, pos := _, after := #[], guard := none }) (v := ?vs1) rfl (by kernel_rfl) (by kernel_rfl) (by kernel_rfl) (fun _ _ _ h => h) (Or.inl ⟨by rfl, ?ys1⟩) (by assumption) ?_
    case ys1 =>
      intro w hSw
      (try dsimp only at hSw)
      go_simp
      (try with_reducible rfl)
    simp only [Act.put, List.setIfInBounds_toArray, List.set_cons_zero, List.set_cons_succ]
    refine wpAnyH_take (i := 2) (oi := { dst := some 112, op := Go.Op.move (Go.Operand.tmp 15), type := 3, pos := _, after := #[], guard := none }) (v := ?vs2) rfl (by kernel_rfl) (by kernel_rfl) (by kernel_rfl) (fun _ _ _ h => h) (Or.inl ⟨by rfl, ?ys2⟩) (by assumption) ?_
    case ys2 =>
      intro w hSw
      (try dsimp only at hSw)
      go_simp
      (try with_reducible rfl)
    simp only [Act.put, List.setIfInBounds_toArray, List.set_cons_zero, List.set_cons_succ]
    refine wpAnyH_take (i := 3) (oi := { dst := some 113, op := Go.Op.indexAddr 22 (Go.Operand.tmp 111) (Go.Operand.tmp 112), type := 0, pos := _, after := #[{ on := 1, ground := Go.Ground.data }, { on := 2, ground := Go.Ground.data }], guard := none }) (v := ?vs3) rfl (by kernel_rfl) (by kernel_rfl) (by kernel_rfl) (fun _ _ _ h => h) (Or.inl ⟨by rfl, ?ys3⟩) (by assumption) ?_
    case ys3 =>
      intro w hSw
      (try dsimp only at hSw)
      go_simp
      (try with_reducible rfl)
    simp only [Act.put, List.setIfInBounds_toArray, List.set_cons_zero, List.set_cons_succ]
    refine wpAnyH_take (i := 4) (oi := { dst := some 114, op := Go.Op.fieldAddr 35 (Go.Operand.tmp 113) 1, type := 0, pos := _, after := #[{ on := 3, ground := Go.Ground.data }], guard := none }) (v := ?vs4) rfl (by kernel_rfl) (by kernel_rfl) (by kernel_rfl) (fun _ _ _ h => h) (Or.inl ⟨by rfl, ?ys4⟩) (by assumption) ?_
    case ys4 =>
      intro w hSw
      (try dsimp only at hSw)
      go_simp
      (try with_reducible rfl)
    simp only [Act.put, List.setIfInBounds_toArray, List.set_cons_zero, List.set_cons_succ]
    refine wpAnyH_take (i := 5) (oi := { dst := some 115, op := Go.Op.load 3 (Go.Operand.tmp 114), type := 3, pos := _, after := #[{ on := 4, ground := Go.Ground.data }], guard := none }) (v := ?vs5) rfl (by kernel_rfl) (by kernel_rfl) (by kernel_rfl) (fun _ _ _ h => h) (Or.inl ⟨by rfl, ?ys5⟩) (by assumption) ?_
    case ys5 =>
      intro w hSw
      (try dsimp only at hSw)
      go_simp
      (try with_reducible rfl)
    simp only [Act.put, List.setIfInBounds_toArray, List.set_cons_zero, List.set_cons_succ]
    refine wpAnyH_take (i := 6) (oi := { dst := some 116, op := Go.Op.move (Go.Operand.tmp 2), type := 22, pos := _, after := #[], guard := none }) (v := ?vs6) rfl (by kernel_rfl) (by kernel_rfl) (by kernel_rfl) (fun _ _ _ h => h) (Or.inl ⟨by rfl, ?ys6⟩) (by assumption) ?_
    case ys6 =>
      intro w hSw
      (try dsimp only at hSw)
      go_simp
      (try with_reducible rfl)
    simp only [Act.put, List.setIfInBounds_toArray, List.set_cons_zero, List.set_cons_succ]
    refine wpAnyH_take (i := 7) (oi := { dst := some 117, op := Go.Op.move (Go.Operand.tmp 15), type := 3, pos := _, after := #[], guard := none }) (v := ?vs7) rfl (by kernel_rfl) (by kernel_rfl) (by kernel_rfl) (fun _ _ _ h => h) (Or.inl ⟨by rfl, ?ys7⟩) (by assumption) ?_
    case ys7 =>
      intro w hSw
      (try dsimp only at hSw)
      go_simp
      (try with_reducible rfl)
    simp only [Act.put, List.setIfInBounds_toArray, List.set_cons_zero, List.set_cons_succ]
    refine wpAnyH_take (i := 8) (oi := { dst := some 118, op := Go.Op.indexAddr 22 (Go.Operand.tmp 116) (Go.Operand.tmp 117), type := 0, pos := _, after := #[{ on := 6, ground := Go.Ground.data }, { on := 7, ground := Go.Ground.data }], guard := none }) (v := ?vs8) rfl (by kernel_rfl) (by kernel_rfl) (by kernel_rfl) (fun _ _ _ h => h) (Or.inl ⟨by rfl, ?ys8⟩) (by assumption) ?_
    case ys8 =>
      intro w hSw
      (try dsimp only at hSw)
      go_simp
      (try with_reducible rfl)
    simp only [Act.put, List.setIfInBounds_toArray, List.set_cons_zero, List.set_cons_succ]
    refine wpAnyH_take (i := 9) (oi := { dst := some 119, op := Go.Op.fieldAddr 35 (Go.Operand.tmp 118) 2, type := 0, pos := _, after := #[{ on := 8, ground := Go.Ground.data }], guard := none }) (v := ?vs9) rfl (by kernel_rfl) (by kernel_rfl) (by kernel_rfl) (fun _ _ _ h => h) (Or.inl ⟨by rfl, ?ys9⟩) (by assumption) ?_
    case ys9 =>
      intro w hSw
      (try dsimp only at hSw)
      go_simp
      (try with_reducible rfl)
    simp only [Act.put, List.setIfInBounds_toArray, List.set_cons_zero, List.set_cons_succ]
    refine wpAnyH_take (i := 10) (oi := { dst := some 120, op := Go.Op.load 3 (Go.Operand.tmp 119), type := 3, pos := _, after := #[{ on := 9, ground := Go.Ground.data }], guard := none }) (v := ?vs10) rfl (by kernel_rfl) (by kernel_rfl) (by kernel_rfl) (fun _ _ _ h => h) (Or.inl ⟨by rfl, ?ys10⟩) (by assumption) ?_
    case ys10 =>
      intro w hSw
      (try dsimp only at hSw)
      go_simp
      (try with_reducible rfl)
    simp only [Act.put, List.setIfInBounds_toArray, List.set_cons_zero, List.set_cons_succ]
    refine wpAnyH_ready (rs := [11]) (by kernel_rfl) (by simp) ?_
    refine AllReadyH.cons rfl (fun K9 hK9 => ?_) AllReadyH.nil
    go_simp
    go_wp2_with (first | (go_at_call 12; refine hpj.mono ?_; rintro e w2 ⟨⟨j, rfl⟩, hb2⟩; have k9 : ¬ ((j : Nat) : Int) < 0 := (by omega); have k8 : decide (((j : Nat) : Int) < 0) = false := (by simp)))
    refine hK9.out _ _ ?ks11 (fun hHeld => ?_)
    case ks11 => exact HCells.out _ (below_step HB.out hb2)
    clear hK9
    refine wpAnyH_take (i := 12) (oi := { dst := some 122, op := Go.Op.binOp Go.BinOp.lss 3 (Go.Operand.tmp 121) (Go.Operand.const (Go.Value.int Go.IntKind.i64 0)) 3, type := 4, pos := _, after := #[{ on := 11, ground := Go.Ground.data }], guard := none }) (v := ?vs12) rfl (by kernel_rfl) (by kernel_rfl) (by kernel_rfl) (fun _ _ _ h => h) (Or.inl ⟨by rfl, ?ys12⟩) (by assumption) ?_
    case ys12 =>
      intro w hSw
      (try dsimp only at hSw)
      go_simp
      (try with_reducible rfl)
    simp only [Act.put, List.setIfInBounds_toArray, List.set_cons_zero, List.set_cons_succ]
    refine wpAnyH_take (i := 13) (oi := { dst := some 123, op := Go.Op.move (Go.Operand.tmp 122), type := 4, pos := _, after := #[{ on := 12, ground := Go.Ground.data }, { on := 11, ground := Go.Ground.chain }], guard := none }) (v := ?vs13) rfl (by kernel_rfl) (by kernel_rfl) (by kernel_rfl) (fun _ _ _ h => h) (Or.inl ⟨by rfl, ?ys13⟩) (by assumption) ?_
    case ys13 =>
      intro w hSw
      (try dsimp only at hSw)
      go_simp
      (try with_reducible rfl)
    simp only [Act.put, List.setIfInBounds_toArray, List.set_cons_zero, List.set_cons_succ]
    refine wpAnyH_take (i := 14) (oi := { dst := some 124, op := Go.Op.move (Go.Operand.tmp 13), type := 23, pos := _, after := #[{ on := 13, ground := Go.Ground.guard }], guard := some (13, true) }) (v := undef) rfl (by kernel_rfl) (by kernel_rfl) (by kernel_rfl) (fun _ _ _ h => h) (Or.inr ⟨by rfl, rfl⟩) (by assumption) ?_
    simp only [Act.put, List.setIfInBounds_toArray, List.set_cons_zero, List.set_cons_succ]
    refine wpAnyH_take (i := 15) (oi := { dst := some 125, op := Go.Op.move (Go.Operand.tmp 2), type := 22, pos := _, after := #[{ on := 13, ground := Go.Ground.guard }], guard := some (13, true) }) (v := undef) rfl (by kernel_rfl) (by kernel_rfl) (by kernel_rfl) (fun _ _ _ h => h) (Or.inr ⟨by rfl, rfl⟩) (by assumption) ?_
    simp only [Act.put, List.setIfInBounds_toArray, List.set_cons_zero, List.set_cons_succ]
    refine wpAnyH_take (i := 16) (oi := { dst := some 126, op := Go.Op.move (Go.Operand.tmp 15), type := 3, pos := _, after := #[{ on := 13, ground := Go.Ground.guard }], guard := some (13, true) }) (v := undef) rfl (by kernel_rfl) (by kernel_rfl) (by kernel_rfl) (fun _ _ _ h => h) (Or.inr ⟨by rfl, rfl⟩) (by assumption) ?_
    simp only [Act.put, List.setIfInBounds_toArray, List.set_cons_zero, List.set_cons_succ]
    refine wpAnyH_take (i := 17) (oi := { dst := some 127, op := Go.Op.indexAddr 22 (Go.Operand.tmp 125) (Go.Operand.tmp 126), type := 0, pos := _, after := #[{ on := 15, ground := Go.Ground.data }, { on := 16, ground := Go.Ground.data }, { on := 13, ground := Go.Ground.guard }], guard := some (13, true) }) (v := undef) rfl (by kernel_rfl) (by kernel_rfl) (by kernel_rfl) (fun _ _ _ h => h) (Or.inr ⟨by rfl, rfl⟩) (by assumption) ?_
    simp only [Act.put, List.setIfInBounds_toArray, List.set_cons_zero, List.set_cons_succ]
    refine wpAnyH_take (i := 18) (oi := { dst := some 128, op := Go.Op.fieldAddr 35 (Go.Operand.tmp 127) 1, type := 0, pos := _, after := #[{ on := 17, ground := Go.Ground.data }, { on := 13, ground := Go.Ground.guard }], guard := some (13, true) }) (v := undef) rfl (by kernel_rfl) (by kernel_rfl) (by kernel_rfl) (fun _ _ _ h => h) (Or.inr ⟨by rfl, rfl⟩) (by assumption) ?_
    simp only [Act.put, List.setIfInBounds_toArray, List.set_cons_zero, List.set_cons_succ]
    refine wpAnyH_take (i := 19) (oi := { dst := some 129, op := Go.Op.load 3 (Go.Operand.tmp 128), type := 3, pos := _, after := #[{ on := 18, ground := Go.Ground.data }, { on := 13, ground := Go.Ground.guard }], guard := some (13, true) }) (v := undef) rfl (by kernel_rfl) (by kernel_rfl) (by kernel_rfl) (fun _ _ _ h => h) (Or.inr ⟨by rfl, rfl⟩) (by assumption) ?_
    simp only [Act.put, List.setIfInBounds_toArray, List.set_cons_zero, List.set_cons_succ]
    refine wpAnyH_take (i := 20) (oi := { dst := some 130, op := Go.Op.move (Go.Operand.tmp 2), type := 22, pos := _, after := #[{ on := 13, ground := Go.Ground.guard }], guard := some (13, true) }) (v := undef) rfl (by kernel_rfl) (by kernel_rfl) (by kernel_rfl) (fun _ _ _ h => h) (Or.inr ⟨by rfl, rfl⟩) (by assumption) ?_
    simp only [Act.put, List.setIfInBounds_toArray, List.set_cons_zero, List.set_cons_succ]
    refine wpAnyH_take (i := 21) (oi := { dst := some 131, op := Go.Op.move (Go.Operand.tmp 15), type := 3, pos := _, after := #[{ on := 13, ground := Go.Ground.guard }], guard := some (13, true) }) (v := undef) rfl (by kernel_rfl) (by kernel_rfl) (by kernel_rfl) (fun _ _ _ h => h) (Or.inr ⟨by rfl, rfl⟩) (by assumption) ?_
    simp only [Act.put, List.setIfInBounds_toArray, List.set_cons_zero, List.set_cons_succ]
    refine wpAnyH_take (i := 22) (oi := { dst := some 132, op := Go.Op.indexAddr 22 (Go.Operand.tmp 130) (Go.Operand.tmp 131), type := 0, pos := _, after := #[{ on := 20, ground := Go.Ground.data }, { on := 21, ground := Go.Ground.data }, { on := 13, ground := Go.Ground.guard }], guard := some (13, true) }) (v := undef) rfl (by kernel_rfl) (by kernel_rfl) (by kernel_rfl) (fun _ _ _ h => h) (Or.inr ⟨by rfl, rfl⟩) (by assumption) ?_
    simp only [Act.put, List.setIfInBounds_toArray, List.set_cons_zero, List.set_cons_succ]
    refine wpAnyH_take (i := 23) (oi := { dst := some 133, op := Go.Op.fieldAddr 35 (Go.Operand.tmp 132) 2, type := 0, pos := _, after := #[{ on := 22, ground := Go.Ground.data }, { on := 13, ground := Go.Ground.guard }], guard := some (13, true) }) (v := undef) rfl (by kernel_rfl) (by kernel_rfl) (by kernel_rfl) (fun _ _ _ h => h) (Or.inr ⟨by rfl, rfl⟩) (by assumption) ?_
    simp only [Act.put, List.setIfInBounds_toArray, List.set_cons_zero, List.set_cons_succ]
    refine wpAnyH_take (i := 24) (oi := { dst := some 134, op := Go.Op.load 3 (Go.Operand.tmp 133), type := 3, pos := _, after := #[{ on := 23, ground := Go.Ground.data }, { on := 13, ground := Go.Ground.guard }], guard := some (13, true) }) (v := undef) rfl (by kernel_rfl) (by kernel_rfl) (by kernel_rfl) (fun _ _ _ h => h) (Or.inr ⟨by rfl, rfl⟩) (by assumption) ?_
    simp only [Act.put, List.setIfInBounds_toArray, List.set_cons_zero, List.set_cons_succ]
    refine wpAnyH_take (i := 25) (oi := { dst := some 135, op := Go.Op.call { callee := Go.Callee.value (Go.Operand.func 6), args := #[Go.Operand.tmp 124, Go.Operand.tmp 129, Go.Operand.tmp 134], argTypes := #[23, 3, 3] }, type := 25, pos := _, after := #[{ on := 14, ground := Go.Ground.data }, { on := 19, ground := Go.Ground.data }, { on := 24, ground := Go.Ground.data }, { on := 13, ground := Go.Ground.chain }, { on := 13, ground := Go.Ground.guard }], guard := some (13, true) }) (v := undef) rfl (by kernel_rfl) (by kernel_rfl) (by kernel_rfl) (fun _ _ _ h => h) (Or.inr ⟨by rfl, rfl⟩) (by assumption) ?_
    simp only [Act.put, List.setIfInBounds_toArray, List.set_cons_zero, List.set_cons_succ]
    refine wpAnyH_take (i := 26) (oi := { dst := some 136, op := Go.Op.binOp Go.BinOp.eql 25 (Go.Operand.tmp 135) (Go.Operand.const Go.Value.nilIface) 25, type := 4, pos := _, after := #[{ on := 25, ground := Go.Ground.data }, { on := 13, ground := Go.Ground.guard }], guard := some (13, true) }) (v := undef) rfl (by kernel_rfl) (by kernel_rfl) (by kernel_rfl) (fun _ _ _ h => h) (Or.inr ⟨by rfl, rfl⟩) (by assumption) ?_
    simp only [Act.put, List.setIfInBounds_toArray, List.set_cons_zero, List.set_cons_succ]
    refine wpAnyH_take (i := 27) (oi := { dst := some 137, op := Go.Op.pick (Go.Operand.tmp 123) (Go.Operand.tmp 136) (Go.Operand.const (Go.Value.bool false)), type := 4, pos := _, after := #[{ on := 13, ground := Go.Ground.data }, { on := 26, ground := Go.Ground.data }], guard := none }) (v := ?vs27) rfl (by kernel_rfl) (by kernel_rfl) (by kernel_rfl) (fun _ _ _ h => h) (Or.inl ⟨by rfl, ?ys27⟩) (by assumption) ?_
    case ys27 =>
      intro w hSw
      (try dsimp only at hSw)
      go_simp
      (try with_reducible rfl)
    simp only [Act.put, List.setIfInBounds_toArray, List.set_cons_zero, List.set_cons_succ]
    refine wpAnyH_done (by kernel_rfl) ?_ _
    refine NoPanic.normal ?_
    have HR : Hid (OW wH H hb0 (fun e => e ∈ ss) (ss).length (ss) v w2 ∧ (ss).Nodup ∧ (∀ e ∈ ss, e ∉ AE) ∧ (ss).length ≤ m + 1) := ⟨HF.out.1.step hb2, HF.out.2.1, HF.out.2.2.1, by have := HF.out.2.2.2; omega⟩
    clear hpj hb2 HF
    go_wp2_with fail
    rw [show ((m : Int) + 1) = ((m + 1 : Nat) : Int) from by omega]
    exact HK.out _ _ (ob_intro _ _ (by omega) HR.out rfl)
  by_cases hfr : Fresh (fun e => e ∈ ss) H.n x y
  · obtain ⟨x1, y1, hx, hy, ha, hb, hne, hnM⟩ := hfr
    subst hx
    subst hy
    have hpj : Calls Tryz.prog 12 #[.slice aA NA cA, .int .i64 (x1 : Nat), .int .i64 (y1 : Nat)] w.drew fun e w' => e = .returned (.int .i64 (-1)) ∧ Below w.drew.heap.size w.drew w' := hpl.mono fun e w' h => by
      obtain ⟨r, rfl, hb, ⟨j, hj, rfl, ho⟩ | ⟨rfl, hno⟩⟩ := h
      · exact absurd ⟨_, getD_mem (by omega), ho⟩ hP
      · exact ⟨rfl, hb⟩
    obtain ⟨u1, hu1⟩ : ∃ u1, min x1 y1 = u1 := ⟨_, rfl⟩
    obtain ⟨u2, hu2⟩ : ∃ u2, max x1 y1 = u2 := ⟨_, rfl⟩
    have hi1 : min ((x1 : Nat) : Int) ((y1 : Nat) : Int) = ((u1 : Nat) : Int) := by omega
    have hi2 : max ((x1 : Nat) : Int) ((y1 : Nat) : Int) = ((u2 : Nat) : Int) := by omega
    have HNW : Hid ((u1, u2) ∉ ss ∧ (u1, u2) ∉ AE) := by
      refine ⟨by rw [← hu1, ← hu2]; exact hnM, fun q => hP ⟨_, q, ?_⟩⟩
      exact ⟨hi1.symm, hi2.symm⟩
    have HAD : Hid (∀ W, Below w.drew.heap.size w.drew W → Calls Tryz.prog 6 #[.pointer (some ⟨H.g, 0, none⟩), .int .i64 (x1 : Nat), .int .i64 (y1 : Nat)] W fun e w' => e = .returned .nilIface ∧ OW wH H hb0 (fun e => e = (u1, u2) ∨ e ∈ ss) (ss.length + 1) ss v w') := fun W hW => by
      have := o_add_ok (HF.out.1.step hW) x1 y1 ha hb hne hnM (by have := HF.out.2.2.2; omega)
      rw [hu1, hu2] at this
      exact this
    have HOF : Hid (∀ W, Calls Tryz.prog 16 #[.int .i64 (x1 : Nat), .int .i64 (y1 : Nat)] W fun e w' => e = .returned (.agg #[.int .i64 (u1 : Nat), .int .i64 (u2 : Nat)]) ∧ Below W.heap.size W w') := fun W => by
      refine (of_edge (w := W) (x1 : Nat) (y1 : Nat)).mono ?_
      rintro e w' ⟨rfl, rfl⟩
      rw [hi1, hi2]
      exact ⟨rfl, (Below.refl _ _).alloc (Nat.le_refl _) _⟩
    clear hpl hP hnM hu1 hu2 hi1 hi2 ha hb hne
    conv => arg 2; whnf
    go_wp2_with fail
    go_region_held3 (fun W => W.cell? ⟨b, o + m * 4 + 1, none⟩ = some (.int .i64 (x1 : Nat)) ∧ W.cell? ⟨b, o + m * 4 + 2, none⟩ = some (.int .i64 (y1 : Nat))) (first | (go_keep; done) | exact k12 | exact HCells.out _ hw3.below | exact HCells.out _ (below_step HB.out hb2))
      (first
        | (go_at_call 12; refine hpj.mono ?_; rintro e w2 ⟨rfl, hb2⟩; have had := HAD.out w2 hb2)
        | (go_at_call 6; refine had.mono ?_; rintro e w3 ⟨rfl, hw3⟩))
    have k3 := HCells.out _ hw3.below
    have hof := HOF.out w3.drew
    have HW3 : Hid (OW wH H hb0 (fun e => e = (u1, u2) ∨ e ∈ ss) (ss.length + 1) ss v w3) := hw3
    clear hpj had hb2 hw3 HAD HOF k12
    go_wp2_with fail
    have hsl : ss.length ≤ m := HF.out.2.2.2
    go_region_held3 (fun W => W.cell? ⟨b, o + m * 4 + 1, none⟩ = some (.int .i64 (x1 : Nat)) ∧ W.cell? ⟨b, o + m * 4 + 2, none⟩ = some (.int .i64 (y1 : Nat))) (first | (go_keep; done) | exact k3 | exact HCells.out _ (below_step HW3.out.below hbV) | exact HCells.out _ (below_step (below_step HW3.out.below hbV) hbZ) | exact HCells.out _ hw5.below)
      (first
        | (go_at_call 16; refine hof.mono ?_; rintro e V ⟨rfl, hbV0⟩; have hbV : Below w3.heap.size w3 V := below_step (Below.refl _ _).drew hbV0; have hbZ : Below V.heap.size V (V.alloc (.cells #[.int .i64 (u1 : Nat), .int .i64 (u2 : Nat)] 41)) := (Below.refl _ _).alloc (Nat.le_refl _) _; have HZ : Hid (OW wH H hb0 (fun e => e = (u1, u2) ∨ e ∈ ss) (ss.length + 1) ss v (V.alloc (.cells #[.int .i64 (u1 : Nat), .int .i64 (u2 : Nat)] 41))) := (HW3.out.step hbV).step hbZ; clear hbV0)
        | (refine step_append_lies _ (by rfl) (.tmp 138) (.tmp 150) 31 (by rfl) hb0 41 z0 (.agg #[.int .i64 0, .int .i64 0]) 2 16 Tryz.underlying31 hi0 hz0 hz1 hz2 rfl (by decide) v ss.length (twos ss) (by simp [Act.eval]) HZ.out.own ⟨V.heap.size, 0, none⟩ 1 1 (two (u1, u2)) (by simp [Act.eval]) rfl (by exact two_here _ _ _) (by simp [two, Value.oneCell']) (by decide) (by unfold maxLen; omega) (by omega) HZ.out.top _ rfl ?_; intro g2 cap2 w5 hown2 hgrow hat hlt4; have hw5 : OW wH H hb0 (fun e => e = (u1, u2) ∨ e ∈ ss) (ss.length + 1) (ss ++ [(u1, u2)]) (.slice (some ⟨g2, 0, none⟩) (ss.length + 1) cap2) w5 := HZ.out.append hown2 hgrow)
        | fail)
    have HR : Hid (OW wH H hb0 (fun e => e ∈ ss ++ [(u1, u2)]) (ss ++ [(u1, u2)]).length (ss ++ [(u1, u2)]) (.slice (some ⟨g2, 0, none⟩) (ss.length + 1) cap2) w5 ∧ (ss ++ [(u1, u2)]).Nodup ∧ (∀ e ∈ ss ++ [(u1, u2)], e ∉ AE) ∧ (ss ++ [(u1, u2)]).length ≤ m + 1) := by
      refine ⟨?_, List.nodup_append.2 ⟨HF.out.2.1, by simp, fun a ha b hb => by simp at hb; subst hb; exact fun q => HNW.out.1 (q ▸ ha)⟩, fun e he => ?_, by rw [List.length_append]; simp; omega⟩
      · rw [List.length_append]
        exact hw5.congr fun e => by rw [List.mem_append, List.mem_singleton]; exact Or.comm
      · rcases List.mem_append.1 he with q | q
        · exact HF.out.2.2.1 e q
        · rw [List.mem_singleton.1 q]; exact HNW.out.2
    clear hown2 hgrow hat hlt4 hw5 HZ HW3 hbV hbZ hof k3 HF HNW
    go_wp2_with fail
    rw [show ((m : Int) + 1) = ((m + 1 : Nat) : Int) from by omega]
    exact HK.out _ _ (ob_intro _ _ (by omega) HR.out rfl)
  · have hpj : Calls Tryz.prog 12 #[.slice aA NA cA, .int .i64 x, .int .i64 y] w.drew fun e w' => e = .returned (.int .i64 (-1)) ∧ Below w.drew.heap.size w.drew w' := hpl.mono fun e w' h => by
      obtain ⟨r, rfl, hb, ⟨j, hj, rfl, ho⟩ | ⟨rfl, hno⟩⟩ := h
      · exact absurd ⟨_, getD_mem (by omega), ho⟩ hP
      · exact ⟨rfl, hb⟩
    have HAD : Hid (∀ W, Below w.drew.heap.size w.drew W → Calls Tryz.prog 6 #[.pointer (some ⟨H.g, 0, none⟩), .int .i64 x, .int .i64 y] W fun e w' => (∃ n : Int, e = .returned (.iface 50 (.int .i64 n))) ∧ OW wH H hb0 (fun e => e ∈ ss) ss.length ss v w') := fun W hW => o_add_no (HF.out.1.step hW) x y hfr
    clear hpl hP hfr
    conv => arg 2; whnf
    go_wp2_with fail
    go_region_held3 (fun W => W.cell? ⟨b, o + m * 4 + 1, none⟩ = some (.int .i64 x) ∧ W.cell? ⟨b, o + m * 4 + 2, none⟩ = some (.int .i64 y)) (first | (go_keep; done) | exact k12 | exact HCells.out _ hw3.below | exact HCells.out _ (below_step HB.out hb2))
      (first
        | (go_at_call 12; refine hpj.mono ?_; rintro e w2 ⟨rfl, hb2⟩; have had := HAD.out w2 hb2)
        | (go_at_call 6; refine had.mono ?_; rintro e w3 ⟨⟨n, rfl⟩, hw3⟩))
    have HR : Hid (OW wH H hb0 (fun e => e ∈ ss) (ss).length (ss) v w3 ∧ (ss).Nodup ∧ (∀ e ∈ ss, e ∉ AE) ∧ (ss).length ≤ m + 1) := ⟨hw3, HF.out.2.1, HF.out.2.2.1, by have := HF.out.2.2.2; omega⟩
    clear hpj had hb2 hw3 HAD HF
    go_wp2_with fail
    rw [show ((m : Int) + 1) = ((m + 1 : Nat) : Int) from by omega]
    exact HK.out _ _ (ob_intro _ _ (by omega) HR.out rfl)

set_option maxRecDepth 1000000 in
set_option maxHeartbeats 20000000 in
theorem ob_end {wH : World} {H : GPl} {hb0 : Nat} {AE : List (Nat × Nat)} {aA am : Option Addr} {NA cA lm cm : Nat} {c9 : Value} {m : Nat} {U : Nat → Value} {w : World} {ss : List (Nat × Nat)} {v : Value} (hs : Script4 wH am lm) (hA : EdgesAt wH aA AE) (la : AE.length = NA) (hl : NA ≤ 60) (hend : m = min lm 20) (hf : (OW wH H hb0 (fun e => e ∈ ss) (ss).length (ss) v w ∧ (ss).Nodup ∧ (∀ e ∈ ss, e ∉ AE) ∧ (ss).length ≤ m)) (K : Act → World → Prop) (Q : Exit → Act → World → Prop) (hQ : ∀ A w', obI wH H hb0 AE aA am NA cA lm cm c9 (min lm 20) A w' → Q (.exit 2) A w') :
    (loopAt Tryz.f4 1).wp Tryz.prog (Exit.then K Q) ⟨#[.int .i64 (H.n : Nat), U 1, .slice am lm cm, U 3, U 4, U 5, U 6, U 7, U 8, c9, U 10, U 11, .slice aA NA cA, .pointer (some ⟨H.g, 0, none⟩), v, .int .i64 (m : Nat), U 16, U 17, U 18, U 19, U 20, U 21, U 22, U 23, U 24, U 25, U 26, U 27, U 28, U 29, U 30, U 31, U 32, U 33, U 34, U 35, U 36, U 37, U 38, U 39, U 40, U 41, U 42, U 43, U 44, U 45, U 46, U 47, U 48, U 49, U 50, U 51, U 52, U 53, U 54, U 55, U 56, U 57, U 58, U 59, U 60, U 61, U 62, U 63, U 64, U 65, U 66, U 67, U 68, U 69, U 70, U 71, U 72, U 73, U 74, U 75, U 76, U 77, U 78, U 79, U 80, U 81, U 82, U 83, U 84, U 85, U 86, U 87, U 88, U 89, U 90, U 91, U 92, U 93, U 94, U 95, U 96, U 97, U 98, U 99, U 100, U 101, U 102, U 103, U 104, U 105, U 106, U 107, U 108, U 109, U 110, U 111, U 112, U 113, U 114, U 115, U 116, U 117, U 118, U 119, U 120, U 121, U 122, U 123, U 124, U 125, U 126, U 127, U 128, U 129, U 130, U 131, U 132, U 133, U 134, U 135, U 136, U 137, U 138, U 139, U 140, U 141, U 142, U 143, U 144, U 145, U 146, U 147, U 148, U 149, U 150, U 151, U 152, U 153, U 154, U 155, U 156, U 157, U 158, U 159, U 160, U 161, U 162, U 163, U 164, U 165, U 166, U 167, U 168, U 169, U 170, U 171, U 172, U 173, U 174, U 175, U 176, U 177, U 178, U 179, U 180, U 181, U 182, U 183, U 184, U 185, U 186, U 187, U 188, U 189, U 190, U 191, U 192, U 193, U 194, U 195, U 196, U 197, U 198, U 199, U 200, U 201, U 202, U 203, U 204, U 205, U 206, U 207, U 208, U 209, U 210, U 211, U 212, U 213, U 214, U 215, U 216, U 217, U 218, U 219, U 220, U 221, U 222, U 223, U 224, U 225, U 226, U 227, U 228, U 229, U 230, U 231, U 232, U 233, U 234, U 235, U 236, U 237, U 238, U 239, U 240, U 241, U 242, U 243, U 244, U 245, U 246, U 247, U 248, U 249, U 250, U 251, U 252, U 253, U 254, U 255, U 256, U 257, U 258, U 259, U 260, U 261, U 262, U 263, U 264, U 265], []⟩ w := by
  have HQ : Hid (∀ A w', obI wH H hb0 AE aA am NA cA lm cm c9 m A w' → Q (.exit 2) A w') := fun A w' h => hQ A w' (by rw [hend] at h; exact h)
  have h1 : m ≤ min lm 20 := by omega
  have HF : Hid ((OW wH H hb0 (fun e => e ∈ ss) (ss).length (ss) v w ∧ (ss).Nodup ∧ (∀ e ∈ ss, e ∉ AE) ∧ (ss).length ≤ m)) := hf
  clear hQ hf
  have hnl : ¬ m < min lm 20 := by omega
  clear hend
  by_cases hl : m < lm
  · have e60 : ¬ m < 20 := by omega
    clear hnl
    conv => arg 2; whnf
    go_wp2_with fail
    exact HQ.out _ _ (ob_intro _ _ h1 HF.out rfl)
  · clear hnl
    conv => arg 2; whnf
    go_wp2_with fail
    exact HQ.out _ _ (ob_intro _ _ h1 HF.out rfl)

/-- How many rounds are still to come, at most. -/
def ob_togo (B : Nat) (A : Act) (_w : World) : Nat := B - (intOf (A.tmps.getD 15 undef)).toNat

set_option maxRecDepth 1000000 in
theorem ob_togo_is {wH : World} {H : GPl} {hb0 : Nat} {AE : List (Nat × Nat)} {aA am : Option Addr} {NA cA lm cm : Nat} {c9 : Value} {m : Nat} {A : Act} {w : World} (h : obI wH H hb0 AE aA am NA cA lm cm c9 m A w) : ob_togo (min lm 20) A w = min lm 20 - m := by
  obtain ⟨U, ss, v,  _, _, rfl⟩ := h
  show min lm 20 - ((m : Nat) : Int).toNat = min lm 20 - m
  omega

theorem ob_round {wH : World} {H : GPl} {hb0 : Nat} {AE : List (Nat × Nat)} {aA am : Option Addr} {NA cA lm cm : Nat} {c9 : Value} (hs : Script4 wH am lm) (hA : EdgesAt wH aA AE) (la : AE.length = NA) (hl : NA ≤ 60) (Q : Exit → Act → World → Prop) (hQ : ∀ A w', obI wH H hb0 AE aA am NA cA lm cm c9 (min lm 20) A w' → Q (.exit 2) A w') (A : Act) (w : World) (h : ∃ m, obI wH H hb0 AE aA am NA cA lm cm c9 m A w) :
    (loopAt Tryz.f4 1).wp Tryz.prog (Exit.then (fun A' w' => (∃ m, obI wH H hb0 AE aA am NA cA lm cm c9 m A' w') ∧ ob_togo (min lm 20) A' w' < ob_togo (min lm 20) A w) Q) A w := by
  obtain ⟨m, hI⟩ := h
  have ht := ob_togo_is hI
  obtain ⟨U, ss, v,  h1, hf, rfl⟩ := hI
  by_cases hend : m = min lm 20
  · exact ob_end hs hA la hl hend hf _ _ hQ
  · refine ob_go hs hA la hl (by omega) hf _ _ fun A' w' h' => ⟨⟨m + 1, h'⟩, ?_⟩
    rw [ob_togo_is h', ht]
    omega

set_option maxRecDepth 1000000 in
theorem ob_loop {wH : World} {H : GPl} {hb0 : Nat} {AE : List (Nat × Nat)} {aA am : Option Addr} {NA cA lm cm : Nat} {c9 : Value} (hs : Script4 wH am lm) (hA : EdgesAt wH aA AE) (la : AE.length = NA) (hl : NA ≤ 60) {w : World} {ss : List (Nat × Nat)} {v : Value} (hf : (OW wH H hb0 (fun e => e ∈ ss) (ss).length (ss) v w ∧ (ss).Nodup ∧ (∀ e ∈ ss, e ∉ AE) ∧ (ss).length ≤ 0)) (Q : Exit → Act → World → Prop) (hQ : ∀ A w', obI wH H hb0 AE aA am NA cA lm cm c9 (min lm 20) A w' → Q (.exit 2) A w') {A : Act} (hA_ : A = ⟨#[.int .i64 (H.n : Nat), A.tmps.getD 1 undef, .slice am lm cm, A.tmps.getD 3 undef, A.tmps.getD 4 undef, A.tmps.getD 5 undef, A.tmps.getD 6 undef, A.tmps.getD 7 undef, A.tmps.getD 8 undef, c9, A.tmps.getD 10 undef, A.tmps.getD 11 undef, .slice aA NA cA, .pointer (some ⟨H.g, 0, none⟩), v, .int .i64 0, A.tmps.getD 16 undef, A.tmps.getD 17 undef, A.tmps.getD 18 undef, A.tmps.getD 19 undef, A.tmps.getD 20 undef, A.tmps.getD 21 undef, A.tmps.getD 22 undef, A.tmps.getD 23 undef, A.tmps.getD 24 undef, A.tmps.getD 25 undef, A.tmps.getD 26 undef, A.tmps.getD 27 undef, A.tmps.getD 28 undef, A.tmps.getD 29 undef, A.tmps.getD 30 undef, A.tmps.getD 31 undef, A.tmps.getD 32 undef, A.tmps.getD 33 undef, A.tmps.getD 34 undef, A.tmps.getD 35 undef, A.tmps.getD 36 undef, A.tmps.getD 37 undef, A.tmps.getD 38 undef, A.tmps.getD 39 undef, A.tmps.getD 40 undef, A.tmps.getD 41 undef, A.tmps.getD 42 undef, A.tmps.getD 43 undef, A.tmps.getD 44 undef, A.tmps.getD 45 undef, A.tmps.getD 46 undef, A.tmps.getD 47 undef, A.tmps.getD 48 undef, A.tmps.getD 49 undef, A.tmps.getD 50 undef, A.tmps.getD 51 undef, A.tmps.getD 52 undef, A.tmps.getD 53 undef, A.tmps.getD 54 undef, A.tmps.getD 55 undef, A.tmps.getD 56 undef, A.tmps.getD 57 undef, A.tmps.getD 58 undef, A.tmps.getD 59 undef, A.tmps.getD 60 undef, A.tmps.getD 61 undef, A.tmps.getD 62 undef, A.tmps.getD 63 undef, A.tmps.getD 64 undef, A.tmps.getD 65 undef, A.tmps.getD 66 undef, A.tmps.getD 67 undef, A.tmps.getD 68 undef, A.tmps.getD 69 undef, A.tmps.getD 70 undef, A.tmps.getD 71 undef, A.tmps.getD 72 undef, A.tmps.getD 73 undef, A.tmps.getD 74 undef, A.tmps.getD 75 undef, A.tmps.getD 76 undef, A.tmps.getD 77 undef, A.tmps.getD 78 undef, A.tmps.getD 79 undef, A.tmps.getD 80 undef, A.tmps.getD 81 undef, A.tmps.getD 82 undef, A.tmps.getD 83 undef, A.tmps.getD 84 undef, A.tmps.getD 85 undef, A.tmps.getD 86 undef, A.tmps.getD 87 undef, A.tmps.getD 88 undef, A.tmps.getD 89 undef, A.tmps.getD 90 undef, A.tmps.getD 91 undef, A.tmps.getD 92 undef, A.tmps.getD 93 undef, A.tmps.getD 94 undef, A.tmps.getD 95 undef, A.tmps.getD 96 undef, A.tmps.getD 97 undef, A.tmps.getD 98 undef, A.tmps.getD 99 undef, A.tmps.getD 100 undef, A.tmps.getD 101 undef, A.tmps.getD 102 undef, A.tmps.getD 103 undef, A.tmps.getD 104 undef, A.tmps.getD 105 undef, A.tmps.getD 106 undef, A.tmps.getD 107 undef, A.tmps.getD 108 undef, A.tmps.getD 109 undef, A.tmps.getD 110 undef, A.tmps.getD 111 undef, A.tmps.getD 112 undef, A.tmps.getD 113 undef, A.tmps.getD 114 undef, A.tmps.getD 115 undef, A.tmps.getD 116 undef, A.tmps.getD 117 undef, A.tmps.getD 118 undef, A.tmps.getD 119 undef, A.tmps.getD 120 undef, A.tmps.getD 121 undef, A.tmps.getD 122 undef, A.tmps.getD 123 undef, A.tmps.getD 124 undef, A.tmps.getD 125 undef, A.tmps.getD 126 undef, A.tmps.getD 127 undef, A.tmps.getD 128 undef, A.tmps.getD 129 undef, A.tmps.getD 130 undef, A.tmps.getD 131 undef, A.tmps.getD 132 undef, A.tmps.getD 133 undef, A.tmps.getD 134 undef, A.tmps.getD 135 undef, A.tmps.getD 136 undef, A.tmps.getD 137 undef, A.tmps.getD 138 undef, A.tmps.getD 139 undef, A.tmps.getD 140 undef, A.tmps.getD 141 undef, A.tmps.getD 142 undef, A.tmps.getD 143 undef, A.tmps.getD 144 undef, A.tmps.getD 145 undef, A.tmps.getD 146 undef, A.tmps.getD 147 undef, A.tmps.getD 148 undef, A.tmps.getD 149 undef, A.tmps.getD 150 undef, A.tmps.getD 151 undef, A.tmps.getD 152 undef, A.tmps.getD 153 undef, A.tmps.getD 154 undef, A.tmps.getD 155 undef, A.tmps.getD 156 undef, A.tmps.getD 157 undef, A.tmps.getD 158 undef, A.tmps.getD 159 undef, A.tmps.getD 160 undef, A.tmps.getD 161 undef, A.tmps.getD 162 undef, A.tmps.getD 163 undef, A.tmps.getD 164 undef, A.tmps.getD 165 undef, A.tmps.getD 166 undef, A.tmps.getD 167 undef, A.tmps.getD 168 undef, A.tmps.getD 169 undef, A.tmps.getD 170 undef, A.tmps.getD 171 undef, A.tmps.getD 172 undef, A.tmps.getD 173 undef, A.tmps.getD 174 undef, A.tmps.getD 175 undef, A.tmps.getD 176 undef, A.tmps.getD 177 undef, A.tmps.getD 178 undef, A.tmps.getD 179 undef, A.tmps.getD 180 undef, A.tmps.getD 181 undef, A.tmps.getD 182 undef, A.tmps.getD 183 undef, A.tmps.getD 184 undef, A.tmps.getD 185 undef, A.tmps.getD 186 undef, A.tmps.getD 187 undef, A.tmps.getD 188 undef, A.tmps.getD 189 undef, A.tmps.getD 190 undef, A.tmps.getD 191 undef, A.tmps.getD 192 undef, A.tmps.getD 193 undef, A.tmps.getD 194 undef, A.tmps.getD 195 undef, A.tmps.getD 196 undef, A.tmps.getD 197 undef, A.tmps.getD 198 undef, A.tmps.getD 199 undef, A.tmps.getD 200 undef, A.tmps.getD 201 undef, A.tmps.getD 202 undef, A.tmps.getD 203 undef, A.tmps.getD 204 undef, A.tmps.getD 205 undef, A.tmps.getD 206 undef, A.tmps.getD 207 undef, A.tmps.getD 208 undef, A.tmps.getD 209 undef, A.tmps.getD 210 undef, A.tmps.getD 211 undef, A.tmps.getD 212 undef, A.tmps.getD 213 undef, A.tmps.getD 214 undef, A.tmps.getD 215 undef, A.tmps.getD 216 undef, A.tmps.getD 217 undef, A.tmps.getD 218 undef, A.tmps.getD 219 undef, A.tmps.getD 220 undef, A.tmps.getD 221 undef, A.tmps.getD 222 undef, A.tmps.getD 223 undef, A.tmps.getD 224 undef, A.tmps.getD 225 undef, A.tmps.getD 226 undef, A.tmps.getD 227 undef, A.tmps.getD 228 undef, A.tmps.getD 229 undef, A.tmps.getD 230 undef, A.tmps.getD 231 undef, A.tmps.getD 232 undef, A.tmps.getD 233 undef, A.tmps.getD 234 undef, A.tmps.getD 235 undef, A.tmps.getD 236 undef, A.tmps.getD 237 undef, A.tmps.getD 238 undef, A.tmps.getD 239 undef, A.tmps.getD 240 undef, A.tmps.getD 241 undef, A.tmps.getD 242 undef, A.tmps.getD 243 undef, A.tmps.getD 244 undef, A.tmps.getD 245 undef, A.tmps.getD 246 undef, A.tmps.getD 247 undef, A.tmps.getD 248 undef, A.tmps.getD 249 undef, A.tmps.getD 250 undef, A.tmps.getD 251 undef, A.tmps.getD 252 undef, A.tmps.getD 253 undef, A.tmps.getD 254 undef, A.tmps.getD 255 undef, A.tmps.getD 256 undef, A.tmps.getD 257 undef, A.tmps.getD 258 undef, A.tmps.getD 259 undef, A.tmps.getD 260 undef, A.tmps.getD 261 undef, A.tmps.getD 262 undef, A.tmps.getD 263 undef, A.tmps.getD 264 undef, A.tmps.getD 265 undef], []⟩) : (Code.loop (loopAt Tryz.f4 1)).wp Tryz.prog Q A w :=
  wp_loop (fun A w => ∃ m, obI wH H hb0 AE aA am NA cA lm cm c9 m A w) (ob_togo (min lm 20)) ⟨0, ob_intro _ _ (Nat.zero_le _) hf hA_⟩ (fun A w' h => ob_round hs hA la hl Q hQ A w' h)

end Go.Proofs.YtcebfloeikjjcabGreat.Gr
