/-
  GraphTrees: the loop that links the edges of a level and above.
-/
import Derived.Test.YtcebfloeikjjcabGreatMm
namespace Go.Proofs.YtcebfloeikjjcabGreat.Gr
open Go.RowKit Go.Deep Go.Maps
open Go.RowKit (Below)
set_option linter.unusedVariables false


set_option maxRecDepth 1000000 in
/-- Where the loop stands. -/
def teI (w1 : World) (G : GPl) (L : Pl) (AE T : List (Nat × Nat)) (aA aT aN : Option Addr) (NA NT cA cT cN v : Nat) (lv : Nat × Nat → Nat) (c1 c10 c11 c12 c13 c20 c27 : Value) (m : Nat) (A : Act) (w : World) : Prop :=
  ∃ (U : Nat → Value) (E : List (Nat × Nat)) (p : Nat → Nat), m ≤ NT ∧ LinkW w1 L T (fun e => decide (v ≤ lv e)) m w E p ∧ A = ⟨#[.int .i64 (G.n : Nat), c1, U 2, U 3, U 4, U 5, U 6, U 7, .pointer (some ⟨G.g, 0, none⟩), U 9, c10, c11, c12, c13, .slice aA NA cA, .slice aT NT cT, U 16, U 17, U 18, .slice aN NA cN, c20, U 21, U 22, U 23, U 24, U 25, U 26, c27, .int .i64 (v : Nat), .pointer (some ⟨L.g, 0, none⟩), U 30, .int .i64 (m : Nat), U 32, U 33, U 34, U 35, U 36, U 37, U 38, U 39, U 40, U 41, U 42, U 43, U 44, U 45, U 46, U 47, U 48, U 49, U 50, U 51, U 52, U 53, U 54, U 55, U 56, U 57, U 58, U 59, U 60, U 61, U 62, U 63, U 64, U 65, U 66, U 67, U 68, U 69, U 70, U 71, U 72, U 73, U 74, U 75, U 76, U 77, U 78, U 79, U 80, U 81, U 82, U 83, U 84, U 85, U 86, U 87, U 88, U 89, U 90, U 91, U 92, U 93, U 94, U 95, U 96, U 97, U 98, U 99, U 100, U 101, U 102, U 103, U 104, U 105, U 106, U 107, U 108, U 109, U 110, U 111, U 112, U 113, U 114, U 115, U 116, U 117, U 118, U 119, U 120, U 121, U 122, U 123, U 124, U 125, U 126, U 127, U 128, U 129, U 130, U 131, U 132, U 133, U 134, U 135, U 136, U 137, U 138, U 139, U 140, U 141, U 142, U 143, U 144, U 145, U 146, U 147, U 148, U 149, U 150, U 151, U 152, U 153, U 154, U 155, U 156, U 157, U 158, U 159, U 160, U 161, U 162, U 163, U 164, U 165, U 166, U 167, U 168, U 169, U 170, U 171, U 172, U 173, U 174, U 175, U 176, U 177, U 178, U 179, U 180, U 181, U 182, U 183, U 184, U 185, U 186, U 187, U 188, U 189, U 190, U 191, U 192, U 193, U 194, U 195, U 196, U 197, U 198, U 199, U 200, U 201, U 202, U 203, U 204, U 205, U 206, U 207, U 208, U 209, U 210, U 211, U 212, U 213, U 214, U 215, U 216, U 217, U 218, U 219, U 220, U 221, U 222, U 223, U 224, U 225, U 226, U 227, U 228, U 229, U 230, U 231, U 232, U 233, U 234, U 235, U 236, U 237, U 238, U 239, U 240, U 241, U 242, U 243, U 244, U 245, U 246, U 247, U 248, U 249, U 250, U 251, U 252, U 253, U 254, U 255, U 256, U 257, U 258, U 259, U 260, U 261, U 262, U 263, U 264, U 265, U 266, U 267, U 268, U 269, U 270, U 271, U 272, U 273, U 274, U 275, U 276, U 277, U 278, U 279, U 280, U 281, U 282, U 283, U 284, U 285, U 286, U 287, U 288, U 289, U 290, U 291, U 292, U 293, U 294, U 295, U 296, U 297, U 298, U 299, U 300, U 301, U 302, U 303, U 304, U 305, U 306, U 307, U 308, U 309, U 310, U 311, U 312, U 313, U 314, U 315, U 316, U 317, U 318, U 319, U 320, U 321, U 322, U 323, U 324, U 325, U 326, U 327, U 328, U 329, U 330, U 331, U 332, U 333, U 334, U 335, U 336, U 337, U 338, U 339, U 340, U 341, U 342, U 343, U 344, U 345, U 346, U 347, U 348, U 349, U 350, U 351, U 352, U 353, U 354, U 355, U 356, U 357, U 358, U 359, U 360, U 361, U 362, U 363, U 364, U 365, U 366, U 367, U 368, U 369, U 370, U 371, U 372, U 373, U 374, U 375, U 376, U 377, U 378, U 379, U 380, U 381, U 382], []⟩

set_option maxRecDepth 1000000 in
theorem te_intro {w1 : World} {G : GPl} {L : Pl} {AE T : List (Nat × Nat)} {aA aT aN : Option Addr} {NA NT cA cT cN v : Nat} {lv : Nat × Nat → Nat} {c1 c10 c11 c12 c13 c20 c27 : Value} {m : Nat} {A : Act} {w : World} (E : List (Nat × Nat)) (p : Nat → Nat) (h1 : m ≤ NT) (hf : LinkW w1 L T (fun e => decide (v ≤ lv e)) m w E p) (h : A = ⟨#[.int .i64 (G.n : Nat), c1, A.tmps.getD 2 undef, A.tmps.getD 3 undef, A.tmps.getD 4 undef, A.tmps.getD 5 undef, A.tmps.getD 6 undef, A.tmps.getD 7 undef, .pointer (some ⟨G.g, 0, none⟩), A.tmps.getD 9 undef, c10, c11, c12, c13, .slice aA NA cA, .slice aT NT cT, A.tmps.getD 16 undef, A.tmps.getD 17 undef, A.tmps.getD 18 undef, .slice aN NA cN, c20, A.tmps.getD 21 undef, A.tmps.getD 22 undef, A.tmps.getD 23 undef, A.tmps.getD 24 undef, A.tmps.getD 25 undef, A.tmps.getD 26 undef, c27, .int .i64 (v : Nat), .pointer (some ⟨L.g, 0, none⟩), A.tmps.getD 30 undef, .int .i64 (m : Nat), A.tmps.getD 32 undef, A.tmps.getD 33 undef, A.tmps.getD 34 undef, A.tmps.getD 35 undef, A.tmps.getD 36 undef, A.tmps.getD 37 undef, A.tmps.getD 38 undef, A.tmps.getD 39 undef, A.tmps.getD 40 undef, A.tmps.getD 41 undef, A.tmps.getD 42 undef, A.tmps.getD 43 undef, A.tmps.getD 44 undef, A.tmps.getD 45 undef, A.tmps.getD 46 undef, A.tmps.getD 47 undef, A.tmps.getD 48 undef, A.tmps.getD 49 undef, A.tmps.getD 50 undef, A.tmps.getD 51 undef, A.tmps.getD 52 undef, A.tmps.getD 53 undef, A.tmps.getD 54 undef, A.tmps.getD 55 undef, A.tmps.getD 56 undef, A.tmps.getD 57 undef, A.tmps.getD 58 undef, A.tmps.getD 59 undef, A.tmps.getD 60 undef, A.tmps.getD 61 undef, A.tmps.getD 62 undef, A.tmps.getD 63 undef, A.tmps.getD 64 undef, A.tmps.getD 65 undef, A.tmps.getD 66 undef, A.tmps.getD 67 undef, A.tmps.getD 68 undef, A.tmps.getD 69 undef, A.tmps.getD 70 undef, A.tmps.getD 71 undef, A.tmps.getD 72 undef, A.tmps.getD 73 undef, A.tmps.getD 74 undef, A.tmps.getD 75 undef, A.tmps.getD 76 undef, A.tmps.getD 77 undef, A.tmps.getD 78 undef, A.tmps.getD 79 undef, A.tmps.getD 80 undef, A.tmps.getD 81 undef, A.tmps.getD 82 undef, A.tmps.getD 83 undef, A.tmps.getD 84 undef, A.tmps.getD 85 undef, A.tmps.getD 86 undef, A.tmps.getD 87 undef, A.tmps.getD 88 undef, A.tmps.getD 89 undef, A.tmps.getD 90 undef, A.tmps.getD 91 undef, A.tmps.getD 92 undef, A.tmps.getD 93 undef, A.tmps.getD 94 undef, A.tmps.getD 95 undef, A.tmps.getD 96 undef, A.tmps.getD 97 undef, A.tmps.getD 98 undef, A.tmps.getD 99 undef, A.tmps.getD 100 undef, A.tmps.getD 101 undef, A.tmps.getD 102 undef, A.tmps.getD 103 undef, A.tmps.getD 104 undef, A.tmps.getD 105 undef, A.tmps.getD 106 undef, A.tmps.getD 107 undef, A.tmps.getD 108 undef, A.tmps.getD 109 undef, A.tmps.getD 110 undef, A.tmps.getD 111 undef, A.tmps.getD 112 undef, A.tmps.getD 113 undef, A.tmps.getD 114 undef, A.tmps.getD 115 undef, A.tmps.getD 116 undef, A.tmps.getD 117 undef, A.tmps.getD 118 undef, A.tmps.getD 119 undef, A.tmps.getD 120 undef, A.tmps.getD 121 undef, A.tmps.getD 122 undef, A.tmps.getD 123 undef, A.tmps.getD 124 undef, A.tmps.getD 125 undef, A.tmps.getD 126 undef, A.tmps.getD 127 undef, A.tmps.getD 128 undef, A.tmps.getD 129 undef, A.tmps.getD 130 undef, A.tmps.getD 131 undef, A.tmps.getD 132 undef, A.tmps.getD 133 undef, A.tmps.getD 134 undef, A.tmps.getD 135 undef, A.tmps.getD 136 undef, A.tmps.getD 137 undef, A.tmps.getD 138 undef, A.tmps.getD 139 undef, A.tmps.getD 140 undef, A.tmps.getD 141 undef, A.tmps.getD 142 undef, A.tmps.getD 143 undef, A.tmps.getD 144 undef, A.tmps.getD 145 undef, A.tmps.getD 146 undef, A.tmps.getD 147 undef, A.tmps.getD 148 undef, A.tmps.getD 149 undef, A.tmps.getD 150 undef, A.tmps.getD 151 undef, A.tmps.getD 152 undef, A.tmps.getD 153 undef, A.tmps.getD 154 undef, A.tmps.getD 155 undef, A.tmps.getD 156 undef, A.tmps.getD 157 undef, A.tmps.getD 158 undef, A.tmps.getD 159 undef, A.tmps.getD 160 undef, A.tmps.getD 161 undef, A.tmps.getD 162 undef, A.tmps.getD 163 undef, A.tmps.getD 164 undef, A.tmps.getD 165 undef, A.tmps.getD 166 undef, A.tmps.getD 167 undef, A.tmps.getD 168 undef, A.tmps.getD 169 undef, A.tmps.getD 170 undef, A.tmps.getD 171 undef, A.tmps.getD 172 undef, A.tmps.getD 173 undef, A.tmps.getD 174 undef, A.tmps.getD 175 undef, A.tmps.getD 176 undef, A.tmps.getD 177 undef, A.tmps.getD 178 undef, A.tmps.getD 179 undef, A.tmps.getD 180 undef, A.tmps.getD 181 undef, A.tmps.getD 182 undef, A.tmps.getD 183 undef, A.tmps.getD 184 undef, A.tmps.getD 185 undef, A.tmps.getD 186 undef, A.tmps.getD 187 undef, A.tmps.getD 188 undef, A.tmps.getD 189 undef, A.tmps.getD 190 undef, A.tmps.getD 191 undef, A.tmps.getD 192 undef, A.tmps.getD 193 undef, A.tmps.getD 194 undef, A.tmps.getD 195 undef, A.tmps.getD 196 undef, A.tmps.getD 197 undef, A.tmps.getD 198 undef, A.tmps.getD 199 undef, A.tmps.getD 200 undef, A.tmps.getD 201 undef, A.tmps.getD 202 undef, A.tmps.getD 203 undef, A.tmps.getD 204 undef, A.tmps.getD 205 undef, A.tmps.getD 206 undef, A.tmps.getD 207 undef, A.tmps.getD 208 undef, A.tmps.getD 209 undef, A.tmps.getD 210 undef, A.tmps.getD 211 undef, A.tmps.getD 212 undef, A.tmps.getD 213 undef, A.tmps.getD 214 undef, A.tmps.getD 215 undef, A.tmps.getD 216 undef, A.tmps.getD 217 undef, A.tmps.getD 218 undef, A.tmps.getD 219 undef, A.tmps.getD 220 undef, A.tmps.getD 221 undef, A.tmps.getD 222 undef, A.tmps.getD 223 undef, A.tmps.getD 224 undef, A.tmps.getD 225 undef, A.tmps.getD 226 undef, A.tmps.getD 227 undef, A.tmps.getD 228 undef, A.tmps.getD 229 undef, A.tmps.getD 230 undef, A.tmps.getD 231 undef, A.tmps.getD 232 undef, A.tmps.getD 233 undef, A.tmps.getD 234 undef, A.tmps.getD 235 undef, A.tmps.getD 236 undef, A.tmps.getD 237 undef, A.tmps.getD 238 undef, A.tmps.getD 239 undef, A.tmps.getD 240 undef, A.tmps.getD 241 undef, A.tmps.getD 242 undef, A.tmps.getD 243 undef, A.tmps.getD 244 undef, A.tmps.getD 245 undef, A.tmps.getD 246 undef, A.tmps.getD 247 undef, A.tmps.getD 248 undef, A.tmps.getD 249 undef, A.tmps.getD 250 undef, A.tmps.getD 251 undef, A.tmps.getD 252 undef, A.tmps.getD 253 undef, A.tmps.getD 254 undef, A.tmps.getD 255 undef, A.tmps.getD 256 undef, A.tmps.getD 257 undef, A.tmps.getD 258 undef, A.tmps.getD 259 undef, A.tmps.getD 260 undef, A.tmps.getD 261 undef, A.tmps.getD 262 undef, A.tmps.getD 263 undef, A.tmps.getD 264 undef, A.tmps.getD 265 undef, A.tmps.getD 266 undef, A.tmps.getD 267 undef, A.tmps.getD 268 undef, A.tmps.getD 269 undef, A.tmps.getD 270 undef, A.tmps.getD 271 undef, A.tmps.getD 272 undef, A.tmps.getD 273 undef, A.tmps.getD 274 undef, A.tmps.getD 275 undef, A.tmps.getD 276 undef, A.tmps.getD 277 undef, A.tmps.getD 278 undef, A.tmps.getD 279 undef, A.tmps.getD 280 undef, A.tmps.getD 281 undef, A.tmps.getD 282 undef, A.tmps.getD 283 undef, A.tmps.getD 284 undef, A.tmps.getD 285 undef, A.tmps.getD 286 undef, A.tmps.getD 287 undef, A.tmps.getD 288 undef, A.tmps.getD 289 undef, A.tmps.getD 290 undef, A.tmps.getD 291 undef, A.tmps.getD 292 undef, A.tmps.getD 293 undef, A.tmps.getD 294 undef, A.tmps.getD 295 undef, A.tmps.getD 296 undef, A.tmps.getD 297 undef, A.tmps.getD 298 undef, A.tmps.getD 299 undef, A.tmps.getD 300 undef, A.tmps.getD 301 undef, A.tmps.getD 302 undef, A.tmps.getD 303 undef, A.tmps.getD 304 undef, A.tmps.getD 305 undef, A.tmps.getD 306 undef, A.tmps.getD 307 undef, A.tmps.getD 308 undef, A.tmps.getD 309 undef, A.tmps.getD 310 undef, A.tmps.getD 311 undef, A.tmps.getD 312 undef, A.tmps.getD 313 undef, A.tmps.getD 314 undef, A.tmps.getD 315 undef, A.tmps.getD 316 undef, A.tmps.getD 317 undef, A.tmps.getD 318 undef, A.tmps.getD 319 undef, A.tmps.getD 320 undef, A.tmps.getD 321 undef, A.tmps.getD 322 undef, A.tmps.getD 323 undef, A.tmps.getD 324 undef, A.tmps.getD 325 undef, A.tmps.getD 326 undef, A.tmps.getD 327 undef, A.tmps.getD 328 undef, A.tmps.getD 329 undef, A.tmps.getD 330 undef, A.tmps.getD 331 undef, A.tmps.getD 332 undef, A.tmps.getD 333 undef, A.tmps.getD 334 undef, A.tmps.getD 335 undef, A.tmps.getD 336 undef, A.tmps.getD 337 undef, A.tmps.getD 338 undef, A.tmps.getD 339 undef, A.tmps.getD 340 undef, A.tmps.getD 341 undef, A.tmps.getD 342 undef, A.tmps.getD 343 undef, A.tmps.getD 344 undef, A.tmps.getD 345 undef, A.tmps.getD 346 undef, A.tmps.getD 347 undef, A.tmps.getD 348 undef, A.tmps.getD 349 undef, A.tmps.getD 350 undef, A.tmps.getD 351 undef, A.tmps.getD 352 undef, A.tmps.getD 353 undef, A.tmps.getD 354 undef, A.tmps.getD 355 undef, A.tmps.getD 356 undef, A.tmps.getD 357 undef, A.tmps.getD 358 undef, A.tmps.getD 359 undef, A.tmps.getD 360 undef, A.tmps.getD 361 undef, A.tmps.getD 362 undef, A.tmps.getD 363 undef, A.tmps.getD 364 undef, A.tmps.getD 365 undef, A.tmps.getD 366 undef, A.tmps.getD 367 undef, A.tmps.getD 368 undef, A.tmps.getD 369 undef, A.tmps.getD 370 undef, A.tmps.getD 371 undef, A.tmps.getD 372 undef, A.tmps.getD 373 undef, A.tmps.getD 374 undef, A.tmps.getD 375 undef, A.tmps.getD 376 undef, A.tmps.getD 377 undef, A.tmps.getD 378 undef, A.tmps.getD 379 undef, A.tmps.getD 380 undef, A.tmps.getD 381 undef, A.tmps.getD 382 undef], []⟩) : teI w1 G L AE T aA aT aN NA NT cA cT cN v lv c1 c10 c11 c12 c13 c20 c27 m A w :=
  ⟨fun k => A.tmps.getD k undef, E, p,  h1, hf, h⟩

set_option maxRecDepth 1000000 in
set_option maxHeartbeats 20000000 in
theorem te_go {w1 : World} {G : GPl} {L : Pl} {AE T : List (Nat × Nat)} {aA aT aN : Option Addr} {NA NT cA cT cN v : Nat} {lv : Nat × Nat → Nat} {c1 c10 c11 c12 c13 c20 c27 : Value} {m : Nat} {U : Nat → Value} {w : World} {E : List (Nat × Nat)} {p : Nat → Nat} (hF : TF w1 G.n AE T aA aT NA NT) (hL : L.n = G.n) (hN : LvAt w1 aN AE lv NA) (hb6 : ∀ e ∈ AE, lv e ≤ 60) (hm : m < NT) (hf : LinkW w1 L T (fun e => decide (v ≤ lv e)) m w E p) (K : Act → World → Prop) (Q : Exit → Act → World → Prop) (hK : ∀ A w', teI w1 G L AE T aA aT aN NA NT cA cT cN v lv c1 c10 c11 c12 c13 c20 c27 (m + 1) A w' → K A w') :
    (loopAt Tryz.f3 4).wp Tryz.prog (Exit.then K Q) ⟨#[.int .i64 (G.n : Nat), c1, U 2, U 3, U 4, U 5, U 6, U 7, .pointer (some ⟨G.g, 0, none⟩), U 9, c10, c11, c12, c13, .slice aA NA cA, .slice aT NT cT, U 16, U 17, U 18, .slice aN NA cN, c20, U 21, U 22, U 23, U 24, U 25, U 26, c27, .int .i64 (v : Nat), .pointer (some ⟨L.g, 0, none⟩), U 30, .int .i64 (m : Nat), U 32, U 33, U 34, U 35, U 36, U 37, U 38, U 39, U 40, U 41, U 42, U 43, U 44, U 45, U 46, U 47, U 48, U 49, U 50, U 51, U 52, U 53, U 54, U 55, U 56, U 57, U 58, U 59, U 60, U 61, U 62, U 63, U 64, U 65, U 66, U 67, U 68, U 69, U 70, U 71, U 72, U 73, U 74, U 75, U 76, U 77, U 78, U 79, U 80, U 81, U 82, U 83, U 84, U 85, U 86, U 87, U 88, U 89, U 90, U 91, U 92, U 93, U 94, U 95, U 96, U 97, U 98, U 99, U 100, U 101, U 102, U 103, U 104, U 105, U 106, U 107, U 108, U 109, U 110, U 111, U 112, U 113, U 114, U 115, U 116, U 117, U 118, U 119, U 120, U 121, U 122, U 123, U 124, U 125, U 126, U 127, U 128, U 129, U 130, U 131, U 132, U 133, U 134, U 135, U 136, U 137, U 138, U 139, U 140, U 141, U 142, U 143, U 144, U 145, U 146, U 147, U 148, U 149, U 150, U 151, U 152, U 153, U 154, U 155, U 156, U 157, U 158, U 159, U 160, U 161, U 162, U 163, U 164, U 165, U 166, U 167, U 168, U 169, U 170, U 171, U 172, U 173, U 174, U 175, U 176, U 177, U 178, U 179, U 180, U 181, U 182, U 183, U 184, U 185, U 186, U 187, U 188, U 189, U 190, U 191, U 192, U 193, U 194, U 195, U 196, U 197, U 198, U 199, U 200, U 201, U 202, U 203, U 204, U 205, U 206, U 207, U 208, U 209, U 210, U 211, U 212, U 213, U 214, U 215, U 216, U 217, U 218, U 219, U 220, U 221, U 222, U 223, U 224, U 225, U 226, U 227, U 228, U 229, U 230, U 231, U 232, U 233, U 234, U 235, U 236, U 237, U 238, U 239, U 240, U 241, U 242, U 243, U 244, U 245, U 246, U 247, U 248, U 249, U 250, U 251, U 252, U 253, U 254, U 255, U 256, U 257, U 258, U 259, U 260, U 261, U 262, U 263, U 264, U 265, U 266, U 267, U 268, U 269, U 270, U 271, U 272, U 273, U 274, U 275, U 276, U 277, U 278, U 279, U 280, U 281, U 282, U 283, U 284, U 285, U 286, U 287, U 288, U 289, U 290, U 291, U 292, U 293, U 294, U 295, U 296, U 297, U 298, U 299, U 300, U 301, U 302, U 303, U 304, U 305, U 306, U 307, U 308, U 309, U 310, U 311, U 312, U 313, U 314, U 315, U 316, U 317, U 318, U 319, U 320, U 321, U 322, U 323, U 324, U 325, U 326, U 327, U 328, U 329, U 330, U 331, U 332, U 333, U 334, U 335, U 336, U 337, U 338, U 339, U 340, U 341, U 342, U 343, U 344, U 345, U 346, U 347, U 348, U 349, U 350, U 351, U 352, U 353, U 354, U 355, U 356, U 357, U 358, U 359, U 360, U 361, U 362, U 363, U 364, U 365, U 366, U 367, U 368, U 369, U 370, U 371, U 372, U 373, U 374, U 375, U 376, U 377, U 378, U 379, U 380, U 381, U 382], []⟩ w := by
  have HK : Hid (∀ A w', teI w1 G L AE T aA aT aN NA NT cA cT cN v lv c1 c10 c11 c12 c13 c20 c27 (m + 1) A w' → K A w') := hK
  clear hK
  have hmT : m < T.length := by rw [hF.lt]; exact hm
  obtain ⟨bT, rfl, q1, q2⟩ := hF.tree.cell m hmT
  have heA := hF.sub _ (getD_mem hmT)
  have hl := hF.less _ heA
  have hd : Below w.heap.size w w.drew := (Below.refl _ _).drew
  have HB : Hid (Below w1.heap.size w1 w.drew) := below_step hf.below hd
  obtain ⟨jj, hjj, hje⟩ := mem_getD heA
  rw [hF.la] at hjj
  have hpl := place_at (c := cA) ((hF.below HB.out).all) hF.la (by have := hF.na; omega) hF.nodupA _ hl hjj hje
  have hcl : v ≤ lv (T.getD m (0, 0)) → ∀ W, Below w.drew.heap.size w.drew W → _ := fun hv W hW => ((hf.step hd).step hW).call hL hF.forest (fun e he => hF.among e (hF.sub e he)) hF.nodup hmT hl (decide_eq_true hv)
  have hsk : ¬ v ≤ lv (T.getD m (0, 0)) → ∀ W, Below w.drew.heap.size w.drew W → LinkW w1 L T (fun e => decide (v ≤ lv e)) (m + 1) W E p := fun hv W hW => ((hf.step hd).step hW).skip hmT (decide_eq_false hv)
  obtain ⟨bN, hbN, hnw⟩ := hN jj hjj
  subst hbN
  rw [hje] at hnw
  have hcells : ∀ W, Below w1.heap.size w1 W → W.cell? ⟨bT, m * 2, none⟩ = some (.int .i64 ((T.getD m (0, 0)).1 : Nat)) ∧ W.cell? ⟨bT, m * 2 + 1, none⟩ = some (.int .i64 ((T.getD m (0, 0)).2 : Nat)) ∧ W.cell? ⟨bN, jj, none⟩ = some (.int .i64 (lv (T.getD m (0, 0)) : Nat)) := fun W hW => ⟨cell_keep hW q1, cell_keep hW q2, cell_keep hW hnw⟩
  have k1 := hcells _ hf.below
  have hnt := hF.nt
  have hl6 := hb6 _ heA
  have hna := hF.na
  clear hf hF heA hl hmT q1 q2 hd hN hb6 hnw hje
  generalize lv (T.getD m (0, 0)) = l at *
  generalize (T.getD m (0, 0)).1 = x at *
  generalize (T.getD m (0, 0)).2 = y at *
  have HCells : Hid (∀ W, Below w1.heap.size w1 W → W.cell? ⟨bT, m * 2, none⟩ = some (.int .i64 (x : Nat)) ∧ W.cell? ⟨bT, m * 2 + 1, none⟩ = some (.int .i64 (y : Nat)) ∧ W.cell? ⟨bN, jj, none⟩ = some (.int .i64 (l : Nat))) := hcells
  have k9 : (0 : Int) ≤ ((jj : Nat) : Int) := by omega
  have k8 : ((jj : Nat) : Int) < (NA : Nat) := by omega
  have i0 : (0 : Int) ≤ (m : Int) := by omega
  have i1 : (m : Int) < (NT : Int) := by omega
  clear hcells
  by_cases hv : v ≤ l
  · have i9 : (v : Int) ≤ (l : Int) := by omega
    have i8 : v ≤ l := by omega
    have i7 : decide (v ≤ l) = true := by simp; omega
    have i6 : decide ((v : Int) ≤ (l : Int)) = true := by simp; omega
    have HCL : Hid (∀ W, Below w.drew.heap.size w.drew W → Calls Tryz.prog 13 #[.pointer (some ⟨L.g, 0, none⟩), .int .i64 (x : Nat), .int .i64 (y : Nat)] W fun e w' => e = .returned .nilIface ∧ Below w1.heap.size w1 w' ∧ Hid (∃ E' p', LinkW w1 L T (fun e => decide (v ≤ lv e)) (m + 1) w' E' p')) := hcl hv
    clear hcl hsk hv
    conv => arg 2; whnf
    go_wp2_with fail
    go_region_held3 (fun W => W.cell? ⟨bT, m * 2, none⟩ = some (.int .i64 (x : Nat)) ∧ W.cell? ⟨bT, m * 2 + 1, none⟩ = some (.int .i64 (y : Nat)) ∧ W.cell? ⟨bN, jj, none⟩ = some (.int .i64 (l : Nat))) (first | (go_keep; done) | exact k1 | exact HCells.out _ hbp | exact HCells.out _ hbl)
      (first
        | (go_at_call 12; refine hpl.mono ?_; rintro e w2 ⟨rfl, hb2⟩; have hbp : Below w1.heap.size w1 w2 := below_step HB.out hb2; have hcl := HCL.out w2 hb2)
        | (go_at_call 13; refine hcl.mono ?_; rintro e w3 ⟨rfl, hbl, HR⟩))
    clear hpl hcl hbp hbl hb2
    go_wp2_with fail
    rw [show ((m : Int) + 1) = ((m + 1 : Nat) : Int) from by omega]
    obtain ⟨E', p', hR⟩ := HR.out
    exact HK.out _ _ (te_intro E' p' (by omega) hR rfl)
  · have i7 : decide (v ≤ l) = false := by simp; omega
    have i6 : decide ((v : Int) ≤ (l : Int)) = false := by simp; omega
    have i5 : (l : Int) < (v : Int) := by omega
    have i4 : l < v := by omega
    have i3 : decide ((l : Int) ≥ (v : Int)) = false := by simp; omega
    have HSK : Hid (∀ W, Below w.drew.heap.size w.drew W → LinkW w1 L T (fun e => decide (v ≤ lv e)) (m + 1) W E p) := hsk hv
    clear hcl hsk hv
    conv => arg 2; whnf
    go_wp2_with fail
    refine wp_region_noPanic ?_
    refine wp_region_held_drew (S := fun W => W.cell? ⟨bT, m * 2, none⟩ = some (.int .i64 (x : Nat)) ∧ W.cell? ⟨bT, m * 2 + 1, none⟩ = some (.int .i64 (y : Nat)) ∧ W.cell? ⟨bN, jj, none⟩ = some (.int .i64 (l : Nat))) (by kernel_rfl) ?hse (fun hHeld => ?_)
    case hse => exact k1
    refine wpAnyH_take (i := 0) (oi := { dst := some 289, op := Go.Op.move (Go.Operand.tmp 19), type := 33, pos := _, after := #[], guard := none }) (v := ?ve0) rfl (by kernel_rfl) (by kernel_rfl) (by kernel_rfl) (fun _ _ _ h => h) (Or.inl ⟨by rfl, ?ye0⟩) (by assumption) ?_
    case ye0 =>
      intro w hSw
      (try dsimp only at hSw)
      go_simp
      (try with_reducible rfl)
    simp only [Act.put, List.setIfInBounds_toArray, List.set_cons_zero, List.set_cons_succ]
    refine wpAnyH_take (i := 1) (oi := { dst := some 290, op := Go.Op.move (Go.Operand.tmp 14), type := 31, pos := _, after := #[], guard := none }) (v := ?ve1) rfl (by kernel_rfl) (by kernel_rfl) (by kernel_rfl) (fun _ _ _ h => h) (Or.inl ⟨by rfl, ?ye1⟩) (by assumption) ?_
    case ye1 =>
      intro w hSw
      (try dsimp only at hSw)
      go_simp
      (try with_reducible rfl)
    simp only [Act.put, List.setIfInBounds_toArray, List.set_cons_zero, List.set_cons_succ]
    refine wpAnyH_take (i := 2) (oi := { dst := some 291, op := Go.Op.move (Go.Operand.tmp 15), type := 31, pos := _, after := #[], guard := none }) (v := ?ve2) rfl (by kernel_rfl) (by kernel_rfl) (by kernel_rfl) (fun _ _ _ h => h) (Or.inl ⟨by rfl, ?ye2⟩) (by assumption) ?_
    case ye2 =>
      intro w hSw
      (try dsimp only at hSw)
      go_simp
      (try with_reducible rfl)
    simp only [Act.put, List.setIfInBounds_toArray, List.set_cons_zero, List.set_cons_succ]
    refine wpAnyH_take (i := 3) (oi := { dst := some 292, op := Go.Op.move (Go.Operand.tmp 31), type := 3, pos := _, after := #[], guard := none }) (v := ?ve3) rfl (by kernel_rfl) (by kernel_rfl) (by kernel_rfl) (fun _ _ _ h => h) (Or.inl ⟨by rfl, ?ye3⟩) (by assumption) ?_
    case ye3 =>
      intro w hSw
      (try dsimp only at hSw)
      go_simp
      (try with_reducible rfl)
    simp only [Act.put, List.setIfInBounds_toArray, List.set_cons_zero, List.set_cons_succ]
    refine wpAnyH_take (i := 4) (oi := { dst := some 293, op := Go.Op.indexAddr 31 (Go.Operand.tmp 291) (Go.Operand.tmp 292), type := 0, pos := _, after := #[{ on := 2, ground := Go.Ground.data }, { on := 3, ground := Go.Ground.data }], guard := none }) (v := ?ve4) rfl (by kernel_rfl) (by kernel_rfl) (by kernel_rfl) (fun _ _ _ h => h) (Or.inl ⟨by rfl, ?ye4⟩) (by assumption) ?_
    case ye4 =>
      intro w hSw
      (try dsimp only at hSw)
      go_simp
      (try with_reducible rfl)
    simp only [Act.put, List.setIfInBounds_toArray, List.set_cons_zero, List.set_cons_succ]
    refine wpAnyH_take (i := 5) (oi := { dst := some 294, op := Go.Op.fieldAddr 41 (Go.Operand.tmp 293) 0, type := 0, pos := _, after := #[{ on := 4, ground := Go.Ground.data }], guard := none }) (v := ?ve5) rfl (by kernel_rfl) (by kernel_rfl) (by kernel_rfl) (fun _ _ _ h => h) (Or.inl ⟨by rfl, ?ye5⟩) (by assumption) ?_
    case ye5 =>
      intro w hSw
      (try dsimp only at hSw)
      go_simp
      (try with_reducible rfl)
    simp only [Act.put, List.setIfInBounds_toArray, List.set_cons_zero, List.set_cons_succ]
    refine wpAnyH_take (i := 6) (oi := { dst := some 295, op := Go.Op.load 3 (Go.Operand.tmp 294), type := 3, pos := _, after := #[{ on := 5, ground := Go.Ground.data }], guard := none }) (v := ?ve6) rfl (by kernel_rfl) (by kernel_rfl) (by kernel_rfl) (fun _ _ _ h => h) (Or.inl ⟨by rfl, ?ye6⟩) (by assumption) ?_
    case ye6 =>
      intro w hSw
      (try dsimp only at hSw)
      go_simp
      (try with_reducible rfl)
    simp only [Act.put, List.setIfInBounds_toArray, List.set_cons_zero, List.set_cons_succ]
    refine wpAnyH_take (i := 7) (oi := { dst := some 296, op := Go.Op.move (Go.Operand.tmp 15), type := 31, pos := _, after := #[], guard := none }) (v := ?ve7) rfl (by kernel_rfl) (by kernel_rfl) (by kernel_rfl) (fun _ _ _ h => h) (Or.inl ⟨by rfl, ?ye7⟩) (by assumption) ?_
    case ye7 =>
      intro w hSw
      (try dsimp only at hSw)
      go_simp
      (try with_reducible rfl)
    simp only [Act.put, List.setIfInBounds_toArray, List.set_cons_zero, List.set_cons_succ]
    refine wpAnyH_take (i := 8) (oi := { dst := some 297, op := Go.Op.move (Go.Operand.tmp 31), type := 3, pos := _, after := #[], guard := none }) (v := ?ve8) rfl (by kernel_rfl) (by kernel_rfl) (by kernel_rfl) (fun _ _ _ h => h) (Or.inl ⟨by rfl, ?ye8⟩) (by assumption) ?_
    case ye8 =>
      intro w hSw
      (try dsimp only at hSw)
      go_simp
      (try with_reducible rfl)
    simp only [Act.put, List.setIfInBounds_toArray, List.set_cons_zero, List.set_cons_succ]
    refine wpAnyH_take (i := 9) (oi := { dst := some 298, op := Go.Op.indexAddr 31 (Go.Operand.tmp 296) (Go.Operand.tmp 297), type := 0, pos := _, after := #[{ on := 7, ground := Go.Ground.data }, { on := 8, ground := Go.Ground.data }], guard := none }) (v := ?ve9) rfl (by kernel_rfl) (by kernel_rfl) (by kernel_rfl) (fun _ _ _ h => h) (Or.inl ⟨by rfl, ?ye9⟩) (by assumption) ?_
    case ye9 =>
      intro w hSw
      (try dsimp only at hSw)
      go_simp
      (try with_reducible rfl)
    simp only [Act.put, List.setIfInBounds_toArray, List.set_cons_zero, List.set_cons_succ]
    refine wpAnyH_take (i := 10) (oi := { dst := some 299, op := Go.Op.fieldAddr 41 (Go.Operand.tmp 298) 1, type := 0, pos := _, after := #[{ on := 9, ground := Go.Ground.data }], guard := none }) (v := ?ve10) rfl (by kernel_rfl) (by kernel_rfl) (by kernel_rfl) (fun _ _ _ h => h) (Or.inl ⟨by rfl, ?ye10⟩) (by assumption) ?_
    case ye10 =>
      intro w hSw
      (try dsimp only at hSw)
      go_simp
      (try with_reducible rfl)
    simp only [Act.put, List.setIfInBounds_toArray, List.set_cons_zero, List.set_cons_succ]
    refine wpAnyH_take (i := 11) (oi := { dst := some 300, op := Go.Op.load 3 (Go.Operand.tmp 299), type := 3, pos := _, after := #[{ on := 10, ground := Go.Ground.data }], guard := none }) (v := ?ve11) rfl (by kernel_rfl) (by kernel_rfl) (by kernel_rfl) (fun _ _ _ h => h) (Or.inl ⟨by rfl, ?ye11⟩) (by assumption) ?_
    case ye11 =>
      intro w hSw
      (try dsimp only at hSw)
      go_simp
      (try with_reducible rfl)
    simp only [Act.put, List.setIfInBounds_toArray, List.set_cons_zero, List.set_cons_succ]
    refine wpAnyH_take (i := 15) (oi := { dst := some 304, op := Go.Op.move (Go.Operand.tmp 28), type := 3, pos := _, after := #[], guard := none }) (v := ?ve12) rfl (by kernel_rfl) (by kernel_rfl) (by kernel_rfl) (fun _ _ _ h => h) (Or.inl ⟨by rfl, ?ye12⟩) (by assumption) ?_
    case ye12 =>
      intro w hSw
      (try dsimp only at hSw)
      go_simp
      (try with_reducible rfl)
    simp only [Act.put, List.setIfInBounds_toArray, List.set_cons_zero, List.set_cons_succ]
    refine wpAnyH_ready (rs := [12]) (by kernel_rfl) (by simp) ?_
    refine AllReadyH.cons rfl (fun K9 hK9 => ?_) AllReadyH.nil
    go_simp
    go_wp2_with (first | (go_at_call 12; refine hpl.mono ?_; rintro e w2 ⟨rfl, hb2⟩; have hbp : Below w1.heap.size w1 w2 := below_step HB.out hb2))
    refine hK9.out _ _ ?ke13 (fun hHeld => ?_)
    case ke13 => exact HCells.out _ hbp
    clear hK9
    refine wpAnyH_take (i := 13) (oi := { dst := some 302, op := Go.Op.indexAddr 33 (Go.Operand.tmp 289) (Go.Operand.tmp 301), type := 0, pos := _, after := #[{ on := 0, ground := Go.Ground.data }, { on := 12, ground := Go.Ground.data }], guard := none }) (v := ?ve14) rfl (by kernel_rfl) (by kernel_rfl) (by kernel_rfl) (fun _ _ _ h => h) (Or.inl ⟨by rfl, ?ye14⟩) (by assumption) ?_
    case ye14 =>
      intro w hSw
      (try dsimp only at hSw)
      go_simp
      (try with_reducible rfl)
    simp only [Act.put, List.setIfInBounds_toArray, List.set_cons_zero, List.set_cons_succ]
    refine wpAnyH_take (i := 14) (oi := { dst := some 303, op := Go.Op.load 3 (Go.Operand.tmp 302), type := 3, pos := _, after := #[{ on := 13, ground := Go.Ground.data }], guard := none }) (v := ?ve15) rfl (by kernel_rfl) (by kernel_rfl) (by kernel_rfl) (fun _ _ _ h => h) (Or.inl ⟨by rfl, ?ye15⟩) (by assumption) ?_
    case ye15 =>
      intro w hSw
      (try dsimp only at hSw)
      go_simp
      (try with_reducible rfl)
    simp only [Act.put, List.setIfInBounds_toArray, List.set_cons_zero, List.set_cons_succ]
    refine wpAnyH_take (i := 16) (oi := { dst := some 305, op := Go.Op.binOp Go.BinOp.geq 3 (Go.Operand.tmp 303) (Go.Operand.tmp 304) 3, type := 4, pos := _, after := #[{ on := 14, ground := Go.Ground.data }, { on := 15, ground := Go.Ground.data }], guard := none }) (v := ?ve16) rfl (by kernel_rfl) (by kernel_rfl) (by kernel_rfl) (fun _ _ _ h => h) (Or.inl ⟨by rfl, ?ye16⟩) (by assumption) ?_
    case ye16 =>
      intro w hSw
      (try dsimp only at hSw)
      go_simp
      (try with_reducible rfl)
    simp only [Act.put, List.setIfInBounds_toArray, List.set_cons_zero, List.set_cons_succ]
    refine wpAnyH_take (i := 17) (oi := { dst := some 306, op := Go.Op.move (Go.Operand.tmp 305), type := 4, pos := _, after := #[{ on := 16, ground := Go.Ground.data }, { on := 12, ground := Go.Ground.chain }], guard := none }) (v := ?ve17) rfl (by kernel_rfl) (by kernel_rfl) (by kernel_rfl) (fun _ _ _ h => h) (Or.inl ⟨by rfl, ?ye17⟩) (by assumption) ?_
    case ye17 =>
      intro w hSw
      (try dsimp only at hSw)
      go_simp
      (try with_reducible rfl)
    simp only [Act.put, List.setIfInBounds_toArray, List.set_cons_zero, List.set_cons_succ]
    refine wpAnyH_take (i := 18) (oi := { dst := some 307, op := Go.Op.move (Go.Operand.tmp 29), type := 36, pos := _, after := #[{ on := 17, ground := Go.Ground.guard }], guard := some (17, true) }) (v := undef) rfl (by kernel_rfl) (by kernel_rfl) (by kernel_rfl) (fun _ _ _ h => h) (Or.inr ⟨by rfl, rfl⟩) (by assumption) ?_
    simp only [Act.put, List.setIfInBounds_toArray, List.set_cons_zero, List.set_cons_succ]
    refine wpAnyH_take (i := 19) (oi := { dst := some 308, op := Go.Op.move (Go.Operand.tmp 15), type := 31, pos := _, after := #[{ on := 17, ground := Go.Ground.guard }], guard := some (17, true) }) (v := undef) rfl (by kernel_rfl) (by kernel_rfl) (by kernel_rfl) (fun _ _ _ h => h) (Or.inr ⟨by rfl, rfl⟩) (by assumption) ?_
    simp only [Act.put, List.setIfInBounds_toArray, List.set_cons_zero, List.set_cons_succ]
    refine wpAnyH_take (i := 20) (oi := { dst := some 309, op := Go.Op.move (Go.Operand.tmp 31), type := 3, pos := _, after := #[{ on := 17, ground := Go.Ground.guard }], guard := some (17, true) }) (v := undef) rfl (by kernel_rfl) (by kernel_rfl) (by kernel_rfl) (fun _ _ _ h => h) (Or.inr ⟨by rfl, rfl⟩) (by assumption) ?_
    simp only [Act.put, List.setIfInBounds_toArray, List.set_cons_zero, List.set_cons_succ]
    refine wpAnyH_take (i := 21) (oi := { dst := some 310, op := Go.Op.indexAddr 31 (Go.Operand.tmp 308) (Go.Operand.tmp 309), type := 0, pos := _, after := #[{ on := 19, ground := Go.Ground.data }, { on := 20, ground := Go.Ground.data }, { on := 17, ground := Go.Ground.guard }], guard := some (17, true) }) (v := undef) rfl (by kernel_rfl) (by kernel_rfl) (by kernel_rfl) (fun _ _ _ h => h) (Or.inr ⟨by rfl, rfl⟩) (by assumption) ?_
    simp only [Act.put, List.setIfInBounds_toArray, List.set_cons_zero, List.set_cons_succ]
    refine wpAnyH_take (i := 22) (oi := { dst := some 311, op := Go.Op.fieldAddr 41 (Go.Operand.tmp 310) 0, type := 0, pos := _, after := #[{ on := 21, ground := Go.Ground.data }, { on := 17, ground := Go.Ground.guard }], guard := some (17, true) }) (v := undef) rfl (by kernel_rfl) (by kernel_rfl) (by kernel_rfl) (fun _ _ _ h => h) (Or.inr ⟨by rfl, rfl⟩) (by assumption) ?_
    simp only [Act.put, List.setIfInBounds_toArray, List.set_cons_zero, List.set_cons_succ]
    refine wpAnyH_take (i := 23) (oi := { dst := some 312, op := Go.Op.load 3 (Go.Operand.tmp 311), type := 3, pos := _, after := #[{ on := 22, ground := Go.Ground.data }, { on := 17, ground := Go.Ground.guard }], guard := some (17, true) }) (v := undef) rfl (by kernel_rfl) (by kernel_rfl) (by kernel_rfl) (fun _ _ _ h => h) (Or.inr ⟨by rfl, rfl⟩) (by assumption) ?_
    simp only [Act.put, List.setIfInBounds_toArray, List.set_cons_zero, List.set_cons_succ]
    refine wpAnyH_take (i := 24) (oi := { dst := some 313, op := Go.Op.move (Go.Operand.tmp 15), type := 31, pos := _, after := #[{ on := 17, ground := Go.Ground.guard }], guard := some (17, true) }) (v := undef) rfl (by kernel_rfl) (by kernel_rfl) (by kernel_rfl) (fun _ _ _ h => h) (Or.inr ⟨by rfl, rfl⟩) (by assumption) ?_
    simp only [Act.put, List.setIfInBounds_toArray, List.set_cons_zero, List.set_cons_succ]
    refine wpAnyH_take (i := 25) (oi := { dst := some 314, op := Go.Op.move (Go.Operand.tmp 31), type := 3, pos := _, after := #[{ on := 17, ground := Go.Ground.guard }], guard := some (17, true) }) (v := undef) rfl (by kernel_rfl) (by kernel_rfl) (by kernel_rfl) (fun _ _ _ h => h) (Or.inr ⟨by rfl, rfl⟩) (by assumption) ?_
    simp only [Act.put, List.setIfInBounds_toArray, List.set_cons_zero, List.set_cons_succ]
    refine wpAnyH_take (i := 26) (oi := { dst := some 315, op := Go.Op.indexAddr 31 (Go.Operand.tmp 313) (Go.Operand.tmp 314), type := 0, pos := _, after := #[{ on := 24, ground := Go.Ground.data }, { on := 25, ground := Go.Ground.data }, { on := 17, ground := Go.Ground.guard }], guard := some (17, true) }) (v := undef) rfl (by kernel_rfl) (by kernel_rfl) (by kernel_rfl) (fun _ _ _ h => h) (Or.inr ⟨by rfl, rfl⟩) (by assumption) ?_
    simp only [Act.put, List.setIfInBounds_toArray, List.set_cons_zero, List.set_cons_succ]
    refine wpAnyH_take (i := 27) (oi := { dst := some 316, op := Go.Op.fieldAddr 41 (Go.Operand.tmp 315) 1, type := 0, pos := _, after := #[{ on := 26, ground := Go.Ground.data }, { on := 17, ground := Go.Ground.guard }], guard := some (17, true) }) (v := undef) rfl (by kernel_rfl) (by kernel_rfl) (by kernel_rfl) (fun _ _ _ h => h) (Or.inr ⟨by rfl, rfl⟩) (by assumption) ?_
    simp only [Act.put, List.setIfInBounds_toArray, List.set_cons_zero, List.set_cons_succ]
    refine wpAnyH_take (i := 28) (oi := { dst := some 317, op := Go.Op.load 3 (Go.Operand.tmp 316), type := 3, pos := _, after := #[{ on := 27, ground := Go.Ground.data }, { on := 17, ground := Go.Ground.guard }], guard := some (17, true) }) (v := undef) rfl (by kernel_rfl) (by kernel_rfl) (by kernel_rfl) (fun _ _ _ h => h) (Or.inr ⟨by rfl, rfl⟩) (by assumption) ?_
    simp only [Act.put, List.setIfInBounds_toArray, List.set_cons_zero, List.set_cons_succ]
    refine wpAnyH_take (i := 29) (oi := { dst := some 318, op := Go.Op.call { callee := Go.Callee.value (Go.Operand.func 13), args := #[Go.Operand.tmp 307, Go.Operand.tmp 312, Go.Operand.tmp 317], argTypes := #[36, 3, 3] }, type := 25, pos := _, after := #[{ on := 18, ground := Go.Ground.data }, { on := 23, ground := Go.Ground.data }, { on := 28, ground := Go.Ground.data }, { on := 17, ground := Go.Ground.chain }, { on := 17, ground := Go.Ground.guard }], guard := some (17, true) }) (v := undef) rfl (by kernel_rfl) (by kernel_rfl) (by kernel_rfl) (fun _ _ _ h => h) (Or.inr ⟨by rfl, rfl⟩) (by assumption) ?_
    simp only [Act.put, List.setIfInBounds_toArray, List.set_cons_zero, List.set_cons_succ]
    refine wpAnyH_take (i := 30) (oi := { dst := some 319, op := Go.Op.binOp Go.BinOp.neq 25 (Go.Operand.tmp 318) (Go.Operand.const Go.Value.nilIface) 25, type := 4, pos := _, after := #[{ on := 29, ground := Go.Ground.data }, { on := 17, ground := Go.Ground.guard }], guard := some (17, true) }) (v := undef) rfl (by kernel_rfl) (by kernel_rfl) (by kernel_rfl) (fun _ _ _ h => h) (Or.inr ⟨by rfl, rfl⟩) (by assumption) ?_
    simp only [Act.put, List.setIfInBounds_toArray, List.set_cons_zero, List.set_cons_succ]
    refine wpAnyH_take (i := 31) (oi := { dst := some 320, op := Go.Op.pick (Go.Operand.tmp 306) (Go.Operand.tmp 319) (Go.Operand.const (Go.Value.bool false)), type := 4, pos := _, after := #[{ on := 17, ground := Go.Ground.data }, { on := 30, ground := Go.Ground.data }], guard := none }) (v := ?ve31) rfl (by kernel_rfl) (by kernel_rfl) (by kernel_rfl) (fun _ _ _ h => h) (Or.inl ⟨by rfl, ?ye31⟩) (by assumption) ?_
    case ye31 =>
      intro w hSw
      (try dsimp only at hSw)
      go_simp
      (try with_reducible rfl)
    simp only [Act.put, List.setIfInBounds_toArray, List.set_cons_zero, List.set_cons_succ]
    refine wpAnyH_done (by kernel_rfl) ?_ _
    refine NoPanic.normal ?_
    have HR : Hid (LinkW w1 L T (fun e => decide (v ≤ lv e)) (m + 1) w2 E p) := HSK.out w2 hb2
    clear hpl hbp hb2
    go_wp2_with fail
    rw [show ((m : Int) + 1) = ((m + 1 : Nat) : Int) from by omega]
    exact HK.out _ _ (te_intro E p (by omega) HR.out rfl)

set_option maxRecDepth 1000000 in
set_option maxHeartbeats 20000000 in
theorem te_end {w1 : World} {G : GPl} {L : Pl} {AE T : List (Nat × Nat)} {aA aT aN : Option Addr} {NA NT cA cT cN v : Nat} {lv : Nat × Nat → Nat} {c1 c10 c11 c12 c13 c20 c27 : Value} {m : Nat} {U : Nat → Value} {w : World} {E : List (Nat × Nat)} {p : Nat → Nat} (hF : TF w1 G.n AE T aA aT NA NT) (hL : L.n = G.n) (hN : LvAt w1 aN AE lv NA) (hb6 : ∀ e ∈ AE, lv e ≤ 60) (hend : m = NT) (hf : LinkW w1 L T (fun e => decide (v ≤ lv e)) m w E p) (K : Act → World → Prop) (Q : Exit → Act → World → Prop) (hQ : ∀ A w', teI w1 G L AE T aA aT aN NA NT cA cT cN v lv c1 c10 c11 c12 c13 c20 c27 (NT) A w' → Q (.exit 8) A w') :
    (loopAt Tryz.f3 4).wp Tryz.prog (Exit.then K Q) ⟨#[.int .i64 (G.n : Nat), c1, U 2, U 3, U 4, U 5, U 6, U 7, .pointer (some ⟨G.g, 0, none⟩), U 9, c10, c11, c12, c13, .slice aA NA cA, .slice aT NT cT, U 16, U 17, U 18, .slice aN NA cN, c20, U 21, U 22, U 23, U 24, U 25, U 26, c27, .int .i64 (v : Nat), .pointer (some ⟨L.g, 0, none⟩), U 30, .int .i64 (m : Nat), U 32, U 33, U 34, U 35, U 36, U 37, U 38, U 39, U 40, U 41, U 42, U 43, U 44, U 45, U 46, U 47, U 48, U 49, U 50, U 51, U 52, U 53, U 54, U 55, U 56, U 57, U 58, U 59, U 60, U 61, U 62, U 63, U 64, U 65, U 66, U 67, U 68, U 69, U 70, U 71, U 72, U 73, U 74, U 75, U 76, U 77, U 78, U 79, U 80, U 81, U 82, U 83, U 84, U 85, U 86, U 87, U 88, U 89, U 90, U 91, U 92, U 93, U 94, U 95, U 96, U 97, U 98, U 99, U 100, U 101, U 102, U 103, U 104, U 105, U 106, U 107, U 108, U 109, U 110, U 111, U 112, U 113, U 114, U 115, U 116, U 117, U 118, U 119, U 120, U 121, U 122, U 123, U 124, U 125, U 126, U 127, U 128, U 129, U 130, U 131, U 132, U 133, U 134, U 135, U 136, U 137, U 138, U 139, U 140, U 141, U 142, U 143, U 144, U 145, U 146, U 147, U 148, U 149, U 150, U 151, U 152, U 153, U 154, U 155, U 156, U 157, U 158, U 159, U 160, U 161, U 162, U 163, U 164, U 165, U 166, U 167, U 168, U 169, U 170, U 171, U 172, U 173, U 174, U 175, U 176, U 177, U 178, U 179, U 180, U 181, U 182, U 183, U 184, U 185, U 186, U 187, U 188, U 189, U 190, U 191, U 192, U 193, U 194, U 195, U 196, U 197, U 198, U 199, U 200, U 201, U 202, U 203, U 204, U 205, U 206, U 207, U 208, U 209, U 210, U 211, U 212, U 213, U 214, U 215, U 216, U 217, U 218, U 219, U 220, U 221, U 222, U 223, U 224, U 225, U 226, U 227, U 228, U 229, U 230, U 231, U 232, U 233, U 234, U 235, U 236, U 237, U 238, U 239, U 240, U 241, U 242, U 243, U 244, U 245, U 246, U 247, U 248, U 249, U 250, U 251, U 252, U 253, U 254, U 255, U 256, U 257, U 258, U 259, U 260, U 261, U 262, U 263, U 264, U 265, U 266, U 267, U 268, U 269, U 270, U 271, U 272, U 273, U 274, U 275, U 276, U 277, U 278, U 279, U 280, U 281, U 282, U 283, U 284, U 285, U 286, U 287, U 288, U 289, U 290, U 291, U 292, U 293, U 294, U 295, U 296, U 297, U 298, U 299, U 300, U 301, U 302, U 303, U 304, U 305, U 306, U 307, U 308, U 309, U 310, U 311, U 312, U 313, U 314, U 315, U 316, U 317, U 318, U 319, U 320, U 321, U 322, U 323, U 324, U 325, U 326, U 327, U 328, U 329, U 330, U 331, U 332, U 333, U 334, U 335, U 336, U 337, U 338, U 339, U 340, U 341, U 342, U 343, U 344, U 345, U 346, U 347, U 348, U 349, U 350, U 351, U 352, U 353, U 354, U 355, U 356, U 357, U 358, U 359, U 360, U 361, U 362, U 363, U 364, U 365, U 366, U 367, U 368, U 369, U 370, U 371, U 372, U 373, U 374, U 375, U 376, U 377, U 378, U 379, U 380, U 381, U 382], []⟩ w := by
  have HQ : Hid (∀ A w', teI w1 G L AE T aA aT aN NA NT cA cT cN v lv c1 c10 c11 c12 c13 c20 c27 m A w' → Q (.exit 8) A w') := fun A w' h => hQ A w' (by rw [hend] at h; exact h)
  have h1 : m ≤ NT := by omega
  have HF : Hid (LinkW w1 L T (fun e => decide (v ≤ lv e)) m w E p) := hf
  clear hQ hf
  have hnl : ¬ m < NT := by omega
  clear hend
  conv => arg 2; whnf
  go_wp2_with fail
  exact HQ.out _ _ (te_intro _ _ h1 HF.out rfl)

/-- How many rounds are still to come, at most. -/
def te_togo (B : Nat) (A : Act) (_w : World) : Nat := B - (intOf (A.tmps.getD 31 undef)).toNat

set_option maxRecDepth 1000000 in
theorem te_togo_is {w1 : World} {G : GPl} {L : Pl} {AE T : List (Nat × Nat)} {aA aT aN : Option Addr} {NA NT cA cT cN v : Nat} {lv : Nat × Nat → Nat} {c1 c10 c11 c12 c13 c20 c27 : Value} {m : Nat} {A : Act} {w : World} (h : teI w1 G L AE T aA aT aN NA NT cA cT cN v lv c1 c10 c11 c12 c13 c20 c27 m A w) : te_togo (NT) A w = NT - m := by
  obtain ⟨U, E, p,  _, _, rfl⟩ := h
  show NT - ((m : Nat) : Int).toNat = NT - m
  omega

theorem te_round {w1 : World} {G : GPl} {L : Pl} {AE T : List (Nat × Nat)} {aA aT aN : Option Addr} {NA NT cA cT cN v : Nat} {lv : Nat × Nat → Nat} {c1 c10 c11 c12 c13 c20 c27 : Value} (hF : TF w1 G.n AE T aA aT NA NT) (hL : L.n = G.n) (hN : LvAt w1 aN AE lv NA) (hb6 : ∀ e ∈ AE, lv e ≤ 60) (Q : Exit → Act → World → Prop) (hQ : ∀ A w', teI w1 G L AE T aA aT aN NA NT cA cT cN v lv c1 c10 c11 c12 c13 c20 c27 (NT) A w' → Q (.exit 8) A w') (A : Act) (w : World) (h : ∃ m, teI w1 G L AE T aA aT aN NA NT cA cT cN v lv c1 c10 c11 c12 c13 c20 c27 m A w) :
    (loopAt Tryz.f3 4).wp Tryz.prog (Exit.then (fun A' w' => (∃ m, teI w1 G L AE T aA aT aN NA NT cA cT cN v lv c1 c10 c11 c12 c13 c20 c27 m A' w') ∧ te_togo (NT) A' w' < te_togo (NT) A w) Q) A w := by
  obtain ⟨m, hI⟩ := h
  have ht := te_togo_is hI
  obtain ⟨U, E, p,  h1, hf, rfl⟩ := hI
  by_cases hend : m = NT
  · exact te_end hF hL hN hb6 hend hf _ _ hQ
  · refine te_go hF hL hN hb6 (by omega) hf _ _ fun A' w' h' => ⟨⟨m + 1, h'⟩, ?_⟩
    rw [te_togo_is h', ht]
    omega

set_option maxRecDepth 1000000 in
theorem te_loop {w1 : World} {G : GPl} {L : Pl} {AE T : List (Nat × Nat)} {aA aT aN : Option Addr} {NA NT cA cT cN v : Nat} {lv : Nat × Nat → Nat} {c1 c10 c11 c12 c13 c20 c27 : Value} (hF : TF w1 G.n AE T aA aT NA NT) (hL : L.n = G.n) (hN : LvAt w1 aN AE lv NA) (hb6 : ∀ e ∈ AE, lv e ≤ 60) {w : World} {E : List (Nat × Nat)} {p : Nat → Nat} (hf : LinkW w1 L T (fun e => decide (v ≤ lv e)) 0 w E p) (Q : Exit → Act → World → Prop) (hQ : ∀ A w', teI w1 G L AE T aA aT aN NA NT cA cT cN v lv c1 c10 c11 c12 c13 c20 c27 (NT) A w' → Q (.exit 8) A w') {A : Act} (hA : A = ⟨#[.int .i64 (G.n : Nat), c1, A.tmps.getD 2 undef, A.tmps.getD 3 undef, A.tmps.getD 4 undef, A.tmps.getD 5 undef, A.tmps.getD 6 undef, A.tmps.getD 7 undef, .pointer (some ⟨G.g, 0, none⟩), A.tmps.getD 9 undef, c10, c11, c12, c13, .slice aA NA cA, .slice aT NT cT, A.tmps.getD 16 undef, A.tmps.getD 17 undef, A.tmps.getD 18 undef, .slice aN NA cN, c20, A.tmps.getD 21 undef, A.tmps.getD 22 undef, A.tmps.getD 23 undef, A.tmps.getD 24 undef, A.tmps.getD 25 undef, A.tmps.getD 26 undef, c27, .int .i64 (v : Nat), .pointer (some ⟨L.g, 0, none⟩), A.tmps.getD 30 undef, .int .i64 0, A.tmps.getD 32 undef, A.tmps.getD 33 undef, A.tmps.getD 34 undef, A.tmps.getD 35 undef, A.tmps.getD 36 undef, A.tmps.getD 37 undef, A.tmps.getD 38 undef, A.tmps.getD 39 undef, A.tmps.getD 40 undef, A.tmps.getD 41 undef, A.tmps.getD 42 undef, A.tmps.getD 43 undef, A.tmps.getD 44 undef, A.tmps.getD 45 undef, A.tmps.getD 46 undef, A.tmps.getD 47 undef, A.tmps.getD 48 undef, A.tmps.getD 49 undef, A.tmps.getD 50 undef, A.tmps.getD 51 undef, A.tmps.getD 52 undef, A.tmps.getD 53 undef, A.tmps.getD 54 undef, A.tmps.getD 55 undef, A.tmps.getD 56 undef, A.tmps.getD 57 undef, A.tmps.getD 58 undef, A.tmps.getD 59 undef, A.tmps.getD 60 undef, A.tmps.getD 61 undef, A.tmps.getD 62 undef, A.tmps.getD 63 undef, A.tmps.getD 64 undef, A.tmps.getD 65 undef, A.tmps.getD 66 undef, A.tmps.getD 67 undef, A.tmps.getD 68 undef, A.tmps.getD 69 undef, A.tmps.getD 70 undef, A.tmps.getD 71 undef, A.tmps.getD 72 undef, A.tmps.getD 73 undef, A.tmps.getD 74 undef, A.tmps.getD 75 undef, A.tmps.getD 76 undef, A.tmps.getD 77 undef, A.tmps.getD 78 undef, A.tmps.getD 79 undef, A.tmps.getD 80 undef, A.tmps.getD 81 undef, A.tmps.getD 82 undef, A.tmps.getD 83 undef, A.tmps.getD 84 undef, A.tmps.getD 85 undef, A.tmps.getD 86 undef, A.tmps.getD 87 undef, A.tmps.getD 88 undef, A.tmps.getD 89 undef, A.tmps.getD 90 undef, A.tmps.getD 91 undef, A.tmps.getD 92 undef, A.tmps.getD 93 undef, A.tmps.getD 94 undef, A.tmps.getD 95 undef, A.tmps.getD 96 undef, A.tmps.getD 97 undef, A.tmps.getD 98 undef, A.tmps.getD 99 undef, A.tmps.getD 100 undef, A.tmps.getD 101 undef, A.tmps.getD 102 undef, A.tmps.getD 103 undef, A.tmps.getD 104 undef, A.tmps.getD 105 undef, A.tmps.getD 106 undef, A.tmps.getD 107 undef, A.tmps.getD 108 undef, A.tmps.getD 109 undef, A.tmps.getD 110 undef, A.tmps.getD 111 undef, A.tmps.getD 112 undef, A.tmps.getD 113 undef, A.tmps.getD 114 undef, A.tmps.getD 115 undef, A.tmps.getD 116 undef, A.tmps.getD 117 undef, A.tmps.getD 118 undef, A.tmps.getD 119 undef, A.tmps.getD 120 undef, A.tmps.getD 121 undef, A.tmps.getD 122 undef, A.tmps.getD 123 undef, A.tmps.getD 124 undef, A.tmps.getD 125 undef, A.tmps.getD 126 undef, A.tmps.getD 127 undef, A.tmps.getD 128 undef, A.tmps.getD 129 undef, A.tmps.getD 130 undef, A.tmps.getD 131 undef, A.tmps.getD 132 undef, A.tmps.getD 133 undef, A.tmps.getD 134 undef, A.tmps.getD 135 undef, A.tmps.getD 136 undef, A.tmps.getD 137 undef, A.tmps.getD 138 undef, A.tmps.getD 139 undef, A.tmps.getD 140 undef, A.tmps.getD 141 undef, A.tmps.getD 142 undef, A.tmps.getD 143 undef, A.tmps.getD 144 undef, A.tmps.getD 145 undef, A.tmps.getD 146 undef, A.tmps.getD 147 undef, A.tmps.getD 148 undef, A.tmps.getD 149 undef, A.tmps.getD 150 undef, A.tmps.getD 151 undef, A.tmps.getD 152 undef, A.tmps.getD 153 undef, A.tmps.getD 154 undef, A.tmps.getD 155 undef, A.tmps.getD 156 undef, A.tmps.getD 157 undef, A.tmps.getD 158 undef, A.tmps.getD 159 undef, A.tmps.getD 160 undef, A.tmps.getD 161 undef, A.tmps.getD 162 undef, A.tmps.getD 163 undef, A.tmps.getD 164 undef, A.tmps.getD 165 undef, A.tmps.getD 166 undef, A.tmps.getD 167 undef, A.tmps.getD 168 undef, A.tmps.getD 169 undef, A.tmps.getD 170 undef, A.tmps.getD 171 undef, A.tmps.getD 172 undef, A.tmps.getD 173 undef, A.tmps.getD 174 undef, A.tmps.getD 175 undef, A.tmps.getD 176 undef, A.tmps.getD 177 undef, A.tmps.getD 178 undef, A.tmps.getD 179 undef, A.tmps.getD 180 undef, A.tmps.getD 181 undef, A.tmps.getD 182 undef, A.tmps.getD 183 undef, A.tmps.getD 184 undef, A.tmps.getD 185 undef, A.tmps.getD 186 undef, A.tmps.getD 187 undef, A.tmps.getD 188 undef, A.tmps.getD 189 undef, A.tmps.getD 190 undef, A.tmps.getD 191 undef, A.tmps.getD 192 undef, A.tmps.getD 193 undef, A.tmps.getD 194 undef, A.tmps.getD 195 undef, A.tmps.getD 196 undef, A.tmps.getD 197 undef, A.tmps.getD 198 undef, A.tmps.getD 199 undef, A.tmps.getD 200 undef, A.tmps.getD 201 undef, A.tmps.getD 202 undef, A.tmps.getD 203 undef, A.tmps.getD 204 undef, A.tmps.getD 205 undef, A.tmps.getD 206 undef, A.tmps.getD 207 undef, A.tmps.getD 208 undef, A.tmps.getD 209 undef, A.tmps.getD 210 undef, A.tmps.getD 211 undef, A.tmps.getD 212 undef, A.tmps.getD 213 undef, A.tmps.getD 214 undef, A.tmps.getD 215 undef, A.tmps.getD 216 undef, A.tmps.getD 217 undef, A.tmps.getD 218 undef, A.tmps.getD 219 undef, A.tmps.getD 220 undef, A.tmps.getD 221 undef, A.tmps.getD 222 undef, A.tmps.getD 223 undef, A.tmps.getD 224 undef, A.tmps.getD 225 undef, A.tmps.getD 226 undef, A.tmps.getD 227 undef, A.tmps.getD 228 undef, A.tmps.getD 229 undef, A.tmps.getD 230 undef, A.tmps.getD 231 undef, A.tmps.getD 232 undef, A.tmps.getD 233 undef, A.tmps.getD 234 undef, A.tmps.getD 235 undef, A.tmps.getD 236 undef, A.tmps.getD 237 undef, A.tmps.getD 238 undef, A.tmps.getD 239 undef, A.tmps.getD 240 undef, A.tmps.getD 241 undef, A.tmps.getD 242 undef, A.tmps.getD 243 undef, A.tmps.getD 244 undef, A.tmps.getD 245 undef, A.tmps.getD 246 undef, A.tmps.getD 247 undef, A.tmps.getD 248 undef, A.tmps.getD 249 undef, A.tmps.getD 250 undef, A.tmps.getD 251 undef, A.tmps.getD 252 undef, A.tmps.getD 253 undef, A.tmps.getD 254 undef, A.tmps.getD 255 undef, A.tmps.getD 256 undef, A.tmps.getD 257 undef, A.tmps.getD 258 undef, A.tmps.getD 259 undef, A.tmps.getD 260 undef, A.tmps.getD 261 undef, A.tmps.getD 262 undef, A.tmps.getD 263 undef, A.tmps.getD 264 undef, A.tmps.getD 265 undef, A.tmps.getD 266 undef, A.tmps.getD 267 undef, A.tmps.getD 268 undef, A.tmps.getD 269 undef, A.tmps.getD 270 undef, A.tmps.getD 271 undef, A.tmps.getD 272 undef, A.tmps.getD 273 undef, A.tmps.getD 274 undef, A.tmps.getD 275 undef, A.tmps.getD 276 undef, A.tmps.getD 277 undef, A.tmps.getD 278 undef, A.tmps.getD 279 undef, A.tmps.getD 280 undef, A.tmps.getD 281 undef, A.tmps.getD 282 undef, A.tmps.getD 283 undef, A.tmps.getD 284 undef, A.tmps.getD 285 undef, A.tmps.getD 286 undef, A.tmps.getD 287 undef, A.tmps.getD 288 undef, A.tmps.getD 289 undef, A.tmps.getD 290 undef, A.tmps.getD 291 undef, A.tmps.getD 292 undef, A.tmps.getD 293 undef, A.tmps.getD 294 undef, A.tmps.getD 295 undef, A.tmps.getD 296 undef, A.tmps.getD 297 undef, A.tmps.getD 298 undef, A.tmps.getD 299 undef, A.tmps.getD 300 undef, A.tmps.getD 301 undef, A.tmps.getD 302 undef, A.tmps.getD 303 undef, A.tmps.getD 304 undef, A.tmps.getD 305 undef, A.tmps.getD 306 undef, A.tmps.getD 307 undef, A.tmps.getD 308 undef, A.tmps.getD 309 undef, A.tmps.getD 310 undef, A.tmps.getD 311 undef, A.tmps.getD 312 undef, A.tmps.getD 313 undef, A.tmps.getD 314 undef, A.tmps.getD 315 undef, A.tmps.getD 316 undef, A.tmps.getD 317 undef, A.tmps.getD 318 undef, A.tmps.getD 319 undef, A.tmps.getD 320 undef, A.tmps.getD 321 undef, A.tmps.getD 322 undef, A.tmps.getD 323 undef, A.tmps.getD 324 undef, A.tmps.getD 325 undef, A.tmps.getD 326 undef, A.tmps.getD 327 undef, A.tmps.getD 328 undef, A.tmps.getD 329 undef, A.tmps.getD 330 undef, A.tmps.getD 331 undef, A.tmps.getD 332 undef, A.tmps.getD 333 undef, A.tmps.getD 334 undef, A.tmps.getD 335 undef, A.tmps.getD 336 undef, A.tmps.getD 337 undef, A.tmps.getD 338 undef, A.tmps.getD 339 undef, A.tmps.getD 340 undef, A.tmps.getD 341 undef, A.tmps.getD 342 undef, A.tmps.getD 343 undef, A.tmps.getD 344 undef, A.tmps.getD 345 undef, A.tmps.getD 346 undef, A.tmps.getD 347 undef, A.tmps.getD 348 undef, A.tmps.getD 349 undef, A.tmps.getD 350 undef, A.tmps.getD 351 undef, A.tmps.getD 352 undef, A.tmps.getD 353 undef, A.tmps.getD 354 undef, A.tmps.getD 355 undef, A.tmps.getD 356 undef, A.tmps.getD 357 undef, A.tmps.getD 358 undef, A.tmps.getD 359 undef, A.tmps.getD 360 undef, A.tmps.getD 361 undef, A.tmps.getD 362 undef, A.tmps.getD 363 undef, A.tmps.getD 364 undef, A.tmps.getD 365 undef, A.tmps.getD 366 undef, A.tmps.getD 367 undef, A.tmps.getD 368 undef, A.tmps.getD 369 undef, A.tmps.getD 370 undef, A.tmps.getD 371 undef, A.tmps.getD 372 undef, A.tmps.getD 373 undef, A.tmps.getD 374 undef, A.tmps.getD 375 undef, A.tmps.getD 376 undef, A.tmps.getD 377 undef, A.tmps.getD 378 undef, A.tmps.getD 379 undef, A.tmps.getD 380 undef, A.tmps.getD 381 undef, A.tmps.getD 382 undef], []⟩) : (Code.loop (loopAt Tryz.f3 4)).wp Tryz.prog Q A w :=
  wp_loop (fun A w => ∃ m, teI w1 G L AE T aA aT aN NA NT cA cT cN v lv c1 c10 c11 c12 c13 c20 c27 m A w) (te_togo (NT)) ⟨0, te_intro _ _ (Nat.zero_le _) hf hA⟩ (fun A w' h => te_round hF hL hN hb6 Q hQ A w' h)

end Go.Proofs.YtcebfloeikjjcabGreat.Gr
