/-
  GraphTrees: the loop that goes step by step.
-/
import Derived.Test.YtcebfloeikjjcabGreatMm
import Derived.Test.YtcebfloeikjjcabGreatGn1
import Derived.Test.YtcebfloeikjjcabGreatGn4
import Derived.Test.YtcebfloeikjjcabGreatGn5
namespace Go.Proofs.YtcebfloeikjjcabGreat.Gr
open Go.RowKit Go.Deep Go.Maps
open Go.RowKit (Below)
set_option linter.unusedVariables false


set_option maxRecDepth 1000000 in
/-- Where the loop stands. -/
def tgI (w0 : World) (G : GPl) (a : Option Addr) (la ca hb0 : Nat) (m : Nat) (A : Act) (w : World) : Prop :=
  ∃ (U : Nat → Value) (aW aV : Option Addr) (NW cW cV : Nat) (AE : List (Nat × Nat)) (lv : Nat × Nat → Nat) (tr : Nat × Nat → Bool), m ≤ min la 60 ∧ (TS w0 G hb0 aW aV NW AE lv tr w ∧ AE.length ≤ m) ∧ A = ⟨#[.int .i64 (G.n : Nat), .slice a la ca, U 2, U 3, U 4, U 5, U 6, U 7, .pointer (some ⟨G.g, 0, none⟩), U 9, .slice aW NW cW, .slice aV NW cV, .int .i64 (m : Nat), U 13, U 14, U 15, U 16, U 17, U 18, U 19, U 20, U 21, U 22, U 23, U 24, U 25, U 26, U 27, U 28, U 29, U 30, U 31, U 32, U 33, U 34, U 35, U 36, U 37, U 38, U 39, U 40, U 41, U 42, U 43, U 44, U 45, U 46, U 47, U 48, U 49, U 50, U 51, U 52, U 53, U 54, U 55, U 56, U 57, U 58, U 59, U 60, U 61, U 62, U 63, U 64, U 65, U 66, U 67, U 68, U 69, U 70, U 71, U 72, U 73, U 74, U 75, U 76, U 77, U 78, U 79, U 80, U 81, U 82, U 83, U 84, U 85, U 86, U 87, U 88, U 89, U 90, U 91, U 92, U 93, U 94, U 95, U 96, U 97, U 98, U 99, U 100, U 101, U 102, U 103, U 104, U 105, U 106, U 107, U 108, U 109, U 110, U 111, U 112, U 113, U 114, U 115, U 116, U 117, U 118, U 119, U 120, U 121, U 122, U 123, U 124, U 125, U 126, U 127, U 128, U 129, U 130, U 131, U 132, U 133, U 134, U 135, U 136, U 137, U 138, U 139, U 140, U 141, U 142, U 143, U 144, U 145, U 146, U 147, U 148, U 149, U 150, U 151, U 152, U 153, U 154, U 155, U 156, U 157, U 158, U 159, U 160, U 161, U 162, U 163, U 164, U 165, U 166, U 167, U 168, U 169, U 170, U 171, U 172, U 173, U 174, U 175, U 176, U 177, U 178, U 179, U 180, U 181, U 182, U 183, U 184, U 185, U 186, U 187, U 188, U 189, U 190, U 191, U 192, U 193, U 194, U 195, U 196, U 197, U 198, U 199, U 200, U 201, U 202, U 203, U 204, U 205, U 206, U 207, U 208, U 209, U 210, U 211, U 212, U 213, U 214, U 215, U 216, U 217, U 218, U 219, U 220, U 221, U 222, U 223, U 224, U 225, U 226, U 227, U 228, U 229, U 230, U 231, U 232, U 233, U 234, U 235, U 236, U 237, U 238, U 239, U 240, U 241, U 242, U 243, U 244, U 245, U 246, U 247, U 248, U 249, U 250, U 251, U 252, U 253, U 254, U 255, U 256, U 257, U 258, U 259, U 260, U 261, U 262, U 263, U 264, U 265, U 266, U 267, U 268, U 269, U 270, U 271, U 272, U 273, U 274, U 275, U 276, U 277, U 278, U 279, U 280, U 281, U 282, U 283, U 284, U 285, U 286, U 287, U 288, U 289, U 290, U 291, U 292, U 293, U 294, U 295, U 296, U 297, U 298, U 299, U 300, U 301, U 302, U 303, U 304, U 305, U 306, U 307, U 308, U 309, U 310, U 311, U 312, U 313, U 314, U 315, U 316, U 317, U 318, U 319, U 320, U 321, U 322, U 323, U 324, U 325, U 326, U 327, U 328, U 329, U 330, U 331, U 332, U 333, U 334, U 335, U 336, U 337, U 338, U 339, U 340, U 341, U 342, U 343, U 344, U 345, U 346, U 347, U 348, U 349, U 350, U 351, U 352, U 353, U 354, U 355, U 356, U 357, U 358, U 359, U 360, U 361, U 362, U 363, U 364, U 365, U 366, U 367, U 368, U 369, U 370, U 371, U 372, U 373, U 374, U 375, U 376, U 377, U 378, U 379, U 380, U 381, U 382], []⟩

set_option maxRecDepth 1000000 in
theorem tg_intro {w0 : World} {G : GPl} {a : Option Addr} {la ca hb0 : Nat} {m : Nat} {A : Act} {w : World} (aW aV : Option Addr) (NW cW cV : Nat) (AE : List (Nat × Nat)) (lv : Nat × Nat → Nat) (tr : Nat × Nat → Bool) (h1 : m ≤ min la 60) (hf : (TS w0 G hb0 aW aV NW AE lv tr w ∧ AE.length ≤ m)) (h : A = ⟨#[.int .i64 (G.n : Nat), .slice a la ca, A.tmps.getD 2 undef, A.tmps.getD 3 undef, A.tmps.getD 4 undef, A.tmps.getD 5 undef, A.tmps.getD 6 undef, A.tmps.getD 7 undef, .pointer (some ⟨G.g, 0, none⟩), A.tmps.getD 9 undef, .slice aW NW cW, .slice aV NW cV, .int .i64 (m : Nat), A.tmps.getD 13 undef, A.tmps.getD 14 undef, A.tmps.getD 15 undef, A.tmps.getD 16 undef, A.tmps.getD 17 undef, A.tmps.getD 18 undef, A.tmps.getD 19 undef, A.tmps.getD 20 undef, A.tmps.getD 21 undef, A.tmps.getD 22 undef, A.tmps.getD 23 undef, A.tmps.getD 24 undef, A.tmps.getD 25 undef, A.tmps.getD 26 undef, A.tmps.getD 27 undef, A.tmps.getD 28 undef, A.tmps.getD 29 undef, A.tmps.getD 30 undef, A.tmps.getD 31 undef, A.tmps.getD 32 undef, A.tmps.getD 33 undef, A.tmps.getD 34 undef, A.tmps.getD 35 undef, A.tmps.getD 36 undef, A.tmps.getD 37 undef, A.tmps.getD 38 undef, A.tmps.getD 39 undef, A.tmps.getD 40 undef, A.tmps.getD 41 undef, A.tmps.getD 42 undef, A.tmps.getD 43 undef, A.tmps.getD 44 undef, A.tmps.getD 45 undef, A.tmps.getD 46 undef, A.tmps.getD 47 undef, A.tmps.getD 48 undef, A.tmps.getD 49 undef, A.tmps.getD 50 undef, A.tmps.getD 51 undef, A.tmps.getD 52 undef, A.tmps.getD 53 undef, A.tmps.getD 54 undef, A.tmps.getD 55 undef, A.tmps.getD 56 undef, A.tmps.getD 57 undef, A.tmps.getD 58 undef, A.tmps.getD 59 undef, A.tmps.getD 60 undef, A.tmps.getD 61 undef, A.tmps.getD 62 undef, A.tmps.getD 63 undef, A.tmps.getD 64 undef, A.tmps.getD 65 undef, A.tmps.getD 66 undef, A.tmps.getD 67 undef, A.tmps.getD 68 undef, A.tmps.getD 69 undef, A.tmps.getD 70 undef, A.tmps.getD 71 undef, A.tmps.getD 72 undef, A.tmps.getD 73 undef, A.tmps.getD 74 undef, A.tmps.getD 75 undef, A.tmps.getD 76 undef, A.tmps.getD 77 undef, A.tmps.getD 78 undef, A.tmps.getD 79 undef, A.tmps.getD 80 undef, A.tmps.getD 81 undef, A.tmps.getD 82 undef, A.tmps.getD 83 undef, A.tmps.getD 84 undef, A.tmps.getD 85 undef, A.tmps.getD 86 undef, A.tmps.getD 87 undef, A.tmps.getD 88 undef, A.tmps.getD 89 undef, A.tmps.getD 90 undef, A.tmps.getD 91 undef, A.tmps.getD 92 undef, A.tmps.getD 93 undef, A.tmps.getD 94 undef, A.tmps.getD 95 undef, A.tmps.getD 96 undef, A.tmps.getD 97 undef, A.tmps.getD 98 undef, A.tmps.getD 99 undef, A.tmps.getD 100 undef, A.tmps.getD 101 undef, A.tmps.getD 102 undef, A.tmps.getD 103 undef, A.tmps.getD 104 undef, A.tmps.getD 105 undef, A.tmps.getD 106 undef, A.tmps.getD 107 undef, A.tmps.getD 108 undef, A.tmps.getD 109 undef, A.tmps.getD 110 undef, A.tmps.getD 111 undef, A.tmps.getD 112 undef, A.tmps.getD 113 undef, A.tmps.getD 114 undef, A.tmps.getD 115 undef, A.tmps.getD 116 undef, A.tmps.getD 117 undef, A.tmps.getD 118 undef, A.tmps.getD 119 undef, A.tmps.getD 120 undef, A.tmps.getD 121 undef, A.tmps.getD 122 undef, A.tmps.getD 123 undef, A.tmps.getD 124 undef, A.tmps.getD 125 undef, A.tmps.getD 126 undef, A.tmps.getD 127 undef, A.tmps.getD 128 undef, A.tmps.getD 129 undef, A.tmps.getD 130 undef, A.tmps.getD 131 undef, A.tmps.getD 132 undef, A.tmps.getD 133 undef, A.tmps.getD 134 undef, A.tmps.getD 135 undef, A.tmps.getD 136 undef, A.tmps.getD 137 undef, A.tmps.getD 138 undef, A.tmps.getD 139 undef, A.tmps.getD 140 undef, A.tmps.getD 141 undef, A.tmps.getD 142 undef, A.tmps.getD 143 undef, A.tmps.getD 144 undef, A.tmps.getD 145 undef, A.tmps.getD 146 undef, A.tmps.getD 147 undef, A.tmps.getD 148 undef, A.tmps.getD 149 undef, A.tmps.getD 150 undef, A.tmps.getD 151 undef, A.tmps.getD 152 undef, A.tmps.getD 153 undef, A.tmps.getD 154 undef, A.tmps.getD 155 undef, A.tmps.getD 156 undef, A.tmps.getD 157 undef, A.tmps.getD 158 undef, A.tmps.getD 159 undef, A.tmps.getD 160 undef, A.tmps.getD 161 undef, A.tmps.getD 162 undef, A.tmps.getD 163 undef, A.tmps.getD 164 undef, A.tmps.getD 165 undef, A.tmps.getD 166 undef, A.tmps.getD 167 undef, A.tmps.getD 168 undef, A.tmps.getD 169 undef, A.tmps.getD 170 undef, A.tmps.getD 171 undef, A.tmps.getD 172 undef, A.tmps.getD 173 undef, A.tmps.getD 174 undef, A.tmps.getD 175 undef, A.tmps.getD 176 undef, A.tmps.getD 177 undef, A.tmps.getD 178 undef, A.tmps.getD 179 undef, A.tmps.getD 180 undef, A.tmps.getD 181 undef, A.tmps.getD 182 undef, A.tmps.getD 183 undef, A.tmps.getD 184 undef, A.tmps.getD 185 undef, A.tmps.getD 186 undef, A.tmps.getD 187 undef, A.tmps.getD 188 undef, A.tmps.getD 189 undef, A.tmps.getD 190 undef, A.tmps.getD 191 undef, A.tmps.getD 192 undef, A.tmps.getD 193 undef, A.tmps.getD 194 undef, A.tmps.getD 195 undef, A.tmps.getD 196 undef, A.tmps.getD 197 undef, A.tmps.getD 198 undef, A.tmps.getD 199 undef, A.tmps.getD 200 undef, A.tmps.getD 201 undef, A.tmps.getD 202 undef, A.tmps.getD 203 undef, A.tmps.getD 204 undef, A.tmps.getD 205 undef, A.tmps.getD 206 undef, A.tmps.getD 207 undef, A.tmps.getD 208 undef, A.tmps.getD 209 undef, A.tmps.getD 210 undef, A.tmps.getD 211 undef, A.tmps.getD 212 undef, A.tmps.getD 213 undef, A.tmps.getD 214 undef, A.tmps.getD 215 undef, A.tmps.getD 216 undef, A.tmps.getD 217 undef, A.tmps.getD 218 undef, A.tmps.getD 219 undef, A.tmps.getD 220 undef, A.tmps.getD 221 undef, A.tmps.getD 222 undef, A.tmps.getD 223 undef, A.tmps.getD 224 undef, A.tmps.getD 225 undef, A.tmps.getD 226 undef, A.tmps.getD 227 undef, A.tmps.getD 228 undef, A.tmps.getD 229 undef, A.tmps.getD 230 undef, A.tmps.getD 231 undef, A.tmps.getD 232 undef, A.tmps.getD 233 undef, A.tmps.getD 234 undef, A.tmps.getD 235 undef, A.tmps.getD 236 undef, A.tmps.getD 237 undef, A.tmps.getD 238 undef, A.tmps.getD 239 undef, A.tmps.getD 240 undef, A.tmps.getD 241 undef, A.tmps.getD 242 undef, A.tmps.getD 243 undef, A.tmps.getD 244 undef, A.tmps.getD 245 undef, A.tmps.getD 246 undef, A.tmps.getD 247 undef, A.tmps.getD 248 undef, A.tmps.getD 249 undef, A.tmps.getD 250 undef, A.tmps.getD 251 undef, A.tmps.getD 252 undef, A.tmps.getD 253 undef, A.tmps.getD 254 undef, A.tmps.getD 255 undef, A.tmps.getD 256 undef, A.tmps.getD 257 undef, A.tmps.getD 258 undef, A.tmps.getD 259 undef, A.tmps.getD 260 undef, A.tmps.getD 261 undef, A.tmps.getD 262 undef, A.tmps.getD 263 undef, A.tmps.getD 264 undef, A.tmps.getD 265 undef, A.tmps.getD 266 undef, A.tmps.getD 267 undef, A.tmps.getD 268 undef, A.tmps.getD 269 undef, A.tmps.getD 270 undef, A.tmps.getD 271 undef, A.tmps.getD 272 undef, A.tmps.getD 273 undef, A.tmps.getD 274 undef, A.tmps.getD 275 undef, A.tmps.getD 276 undef, A.tmps.getD 277 undef, A.tmps.getD 278 undef, A.tmps.getD 279 undef, A.tmps.getD 280 undef, A.tmps.getD 281 undef, A.tmps.getD 282 undef, A.tmps.getD 283 undef, A.tmps.getD 284 undef, A.tmps.getD 285 undef, A.tmps.getD 286 undef, A.tmps.getD 287 undef, A.tmps.getD 288 undef, A.tmps.getD 289 undef, A.tmps.getD 290 undef, A.tmps.getD 291 undef, A.tmps.getD 292 undef, A.tmps.getD 293 undef, A.tmps.getD 294 undef, A.tmps.getD 295 undef, A.tmps.getD 296 undef, A.tmps.getD 297 undef, A.tmps.getD 298 undef, A.tmps.getD 299 undef, A.tmps.getD 300 undef, A.tmps.getD 301 undef, A.tmps.getD 302 undef, A.tmps.getD 303 undef, A.tmps.getD 304 undef, A.tmps.getD 305 undef, A.tmps.getD 306 undef, A.tmps.getD 307 undef, A.tmps.getD 308 undef, A.tmps.getD 309 undef, A.tmps.getD 310 undef, A.tmps.getD 311 undef, A.tmps.getD 312 undef, A.tmps.getD 313 undef, A.tmps.getD 314 undef, A.tmps.getD 315 undef, A.tmps.getD 316 undef, A.tmps.getD 317 undef, A.tmps.getD 318 undef, A.tmps.getD 319 undef, A.tmps.getD 320 undef, A.tmps.getD 321 undef, A.tmps.getD 322 undef, A.tmps.getD 323 undef, A.tmps.getD 324 undef, A.tmps.getD 325 undef, A.tmps.getD 326 undef, A.tmps.getD 327 undef, A.tmps.getD 328 undef, A.tmps.getD 329 undef, A.tmps.getD 330 undef, A.tmps.getD 331 undef, A.tmps.getD 332 undef, A.tmps.getD 333 undef, A.tmps.getD 334 undef, A.tmps.getD 335 undef, A.tmps.getD 336 undef, A.tmps.getD 337 undef, A.tmps.getD 338 undef, A.tmps.getD 339 undef, A.tmps.getD 340 undef, A.tmps.getD 341 undef, A.tmps.getD 342 undef, A.tmps.getD 343 undef, A.tmps.getD 344 undef, A.tmps.getD 345 undef, A.tmps.getD 346 undef, A.tmps.getD 347 undef, A.tmps.getD 348 undef, A.tmps.getD 349 undef, A.tmps.getD 350 undef, A.tmps.getD 351 undef, A.tmps.getD 352 undef, A.tmps.getD 353 undef, A.tmps.getD 354 undef, A.tmps.getD 355 undef, A.tmps.getD 356 undef, A.tmps.getD 357 undef, A.tmps.getD 358 undef, A.tmps.getD 359 undef, A.tmps.getD 360 undef, A.tmps.getD 361 undef, A.tmps.getD 362 undef, A.tmps.getD 363 undef, A.tmps.getD 364 undef, A.tmps.getD 365 undef, A.tmps.getD 366 undef, A.tmps.getD 367 undef, A.tmps.getD 368 undef, A.tmps.getD 369 undef, A.tmps.getD 370 undef, A.tmps.getD 371 undef, A.tmps.getD 372 undef, A.tmps.getD 373 undef, A.tmps.getD 374 undef, A.tmps.getD 375 undef, A.tmps.getD 376 undef, A.tmps.getD 377 undef, A.tmps.getD 378 undef, A.tmps.getD 379 undef, A.tmps.getD 380 undef, A.tmps.getD 381 undef, A.tmps.getD 382 undef], []⟩) : tgI w0 G a la ca hb0 m A w :=
  ⟨fun k => A.tmps.getD k undef, aW, aV, NW, cW, cV, AE, lv, tr,  h1, hf, h⟩

set_option maxRecDepth 1000000 in
set_option maxHeartbeats 4000000 in
theorem tg_go {w0 : World} {G : GPl} {a : Option Addr} {la ca hb0 : Nat} {m : Nat} {U : Nat → Value} {w : World} {aW aV : Option Addr} {NW cW cV : Nat} {AE : List (Nat × Nat)} {lv : Nat × Nat → Nat} {tr : Nat × Nat → Bool} (hs : Script4 w0 a la) (hft : ∀ c, GFoot G c → c < hb0) (hm : m < min la 60) (hf : (TS w0 G hb0 aW aV NW AE lv tr w ∧ AE.length ≤ m)) (K : Act → World → Prop) (Q : Exit → Act → World → Prop) (hK : ∀ A w', tgI w0 G a la ca hb0 (m + 1) A w' → K A w') :
    (loopAt Tryz.f3 0).wp Tryz.prog (Exit.then K Q) ⟨#[.int .i64 (G.n : Nat), .slice a la ca, U 2, U 3, U 4, U 5, U 6, U 7, .pointer (some ⟨G.g, 0, none⟩), U 9, .slice aW NW cW, .slice aV NW cV, .int .i64 (m : Nat), U 13, U 14, U 15, U 16, U 17, U 18, U 19, U 20, U 21, U 22, U 23, U 24, U 25, U 26, U 27, U 28, U 29, U 30, U 31, U 32, U 33, U 34, U 35, U 36, U 37, U 38, U 39, U 40, U 41, U 42, U 43, U 44, U 45, U 46, U 47, U 48, U 49, U 50, U 51, U 52, U 53, U 54, U 55, U 56, U 57, U 58, U 59, U 60, U 61, U 62, U 63, U 64, U 65, U 66, U 67, U 68, U 69, U 70, U 71, U 72, U 73, U 74, U 75, U 76, U 77, U 78, U 79, U 80, U 81, U 82, U 83, U 84, U 85, U 86, U 87, U 88, U 89, U 90, U 91, U 92, U 93, U 94, U 95, U 96, U 97, U 98, U 99, U 100, U 101, U 102, U 103, U 104, U 105, U 106, U 107, U 108, U 109, U 110, U 111, U 112, U 113, U 114, U 115, U 116, U 117, U 118, U 119, U 120, U 121, U 122, U 123, U 124, U 125, U 126, U 127, U 128, U 129, U 130, U 131, U 132, U 133, U 134, U 135, U 136, U 137, U 138, U 139, U 140, U 141, U 142, U 143, U 144, U 145, U 146, U 147, U 148, U 149, U 150, U 151, U 152, U 153, U 154, U 155, U 156, U 157, U 158, U 159, U 160, U 161, U 162, U 163, U 164, U 165, U 166, U 167, U 168, U 169, U 170, U 171, U 172, U 173, U 174, U 175, U 176, U 177, U 178, U 179, U 180, U 181, U 182, U 183, U 184, U 185, U 186, U 187, U 188, U 189, U 190, U 191, U 192, U 193, U 194, U 195, U 196, U 197, U 198, U 199, U 200, U 201, U 202, U 203, U 204, U 205, U 206, U 207, U 208, U 209, U 210, U 211, U 212, U 213, U 214, U 215, U 216, U 217, U 218, U 219, U 220, U 221, U 222, U 223, U 224, U 225, U 226, U 227, U 228, U 229, U 230, U 231, U 232, U 233, U 234, U 235, U 236, U 237, U 238, U 239, U 240, U 241, U 242, U 243, U 244, U 245, U 246, U 247, U 248, U 249, U 250, U 251, U 252, U 253, U 254, U 255, U 256, U 257, U 258, U 259, U 260, U 261, U 262, U 263, U 264, U 265, U 266, U 267, U 268, U 269, U 270, U 271, U 272, U 273, U 274, U 275, U 276, U 277, U 278, U 279, U 280, U 281, U 282, U 283, U 284, U 285, U 286, U 287, U 288, U 289, U 290, U 291, U 292, U 293, U 294, U 295, U 296, U 297, U 298, U 299, U 300, U 301, U 302, U 303, U 304, U 305, U 306, U 307, U 308, U 309, U 310, U 311, U 312, U 313, U 314, U 315, U 316, U 317, U 318, U 319, U 320, U 321, U 322, U 323, U 324, U 325, U 326, U 327, U 328, U 329, U 330, U 331, U 332, U 333, U 334, U 335, U 336, U 337, U 338, U 339, U 340, U 341, U 342, U 343, U 344, U 345, U 346, U 347, U 348, U 349, U 350, U 351, U 352, U 353, U 354, U 355, U 356, U 357, U 358, U 359, U 360, U 361, U 362, U 363, U 364, U 365, U 366, U 367, U 368, U 369, U 370, U 371, U 372, U 373, U 374, U 375, U 376, U 377, U 378, U 379, U 380, U 381, U 382], []⟩ w := by
  have HK : Hid (∀ A w', tgI w0 G a la ca hb0 (m + 1) A w' → K A w') := hK
  clear hK
  obtain ⟨hm1, hm2⟩ : m < la ∧ m < 60 := by omega
  obtain ⟨hf, hle⟩ := hf
  obtain ⟨b, o, what, x, y, al, nl, cl, ea, q0, q1, q2, q3⟩ := hs.step m hm1
  subst ea
  have hb := hf.gw.below
  have k0 := cell_keep hb q0
  have k1 := cell_keep hb q1
  have k2 := cell_keep hb q2
  have k3 := cell_keep hb q3
  have hbx : Below w.heap.size w (w.alloc (.cells #[.int .i64 what, .int .i64 x, .int .i64 y, .slice al nl cl] 35)) := (Below.refl _ _).alloc (Nat.le_refl _) _
  have HF : Hid (TS w0 G hb0 aW aV NW AE lv tr (w.alloc (.cells #[.int .i64 what, .int .i64 x, .int .i64 y, .slice al nl cl] 35)) ∧ AE.length ≤ m ∧ ∀ c, GFoot G c → c < hb0) := ⟨hf.step hbx, hle, hft⟩
  have z0 : (w.alloc (.cells #[.int .i64 what, .int .i64 x, .int .i64 y, .slice al nl cl] 35)).cell? ⟨w.heap.size, 0, none⟩ = some (.int .i64 what) := by simp
  have z1 : (w.alloc (.cells #[.int .i64 what, .int .i64 x, .int .i64 y, .slice al nl cl] 35)).cell? ⟨w.heap.size, 1, none⟩ = some (.int .i64 x) := by simp
  have z2 : (w.alloc (.cells #[.int .i64 what, .int .i64 x, .int .i64 y, .slice al nl cl] 35)).cell? ⟨w.heap.size, 2, none⟩ = some (.int .i64 y) := by simp
  have i0 : (0 : Int) ≤ (m : Int) := by omega
  have i1 : (m : Int) < (la : Int) := by omega
  clear hf hb hbx q0 q1 q2 q3 hs hft hm
  by_cases hw : what < 3
  · have d1 : what < 3 := hw
    have hch : Calls Tryz.prog 6 #[.pointer (some ⟨G.g, 0, none⟩), .int .i64 x, .int .i64 y] (w.alloc (.cells #[.int .i64 what, .int .i64 x, .int .i64 y, .slice al nl cl] 35)) (Changed w0 (w.alloc (.cells #[.int .i64 what, .int .i64 x, .int .i64 y, .slice al nl cl] 35)) G AE lv) := add_u HF.out.1.gw x y (by omega)
    clear hw
    conv => arg 2; whnf
    go_wp2_with fail
    generalize (w.alloc (.cells #[.int .i64 what, .int .i64 x, .int .i64 y, .slice al nl cl] 35)) = w2 at *
    refine hch.mono ?_
    rintro e w3 ⟨err, A3, lv3, tr3, rfl, t3, gw3, gr3⟩
    obtain ⟨NA, hNA⟩ : ∃ NA, A3.length = NA := ⟨_, rfl⟩
    obtain ⟨NT, hNT⟩ : ∃ NT, (Fo A3 lv3 tr3 0).length = NT := ⟨_, rfl⟩
    have hl3 := HF.out.1.lists HF.out.2.2 t3
    have H3 : Hid (GW w0 G A3 lv3 tr3 w3 ∧ Grew AE lv A3 lv3 ∧ EdgesAt w3 aW AE ∧ LvAt w3 aV AE lv NW ∧ A3.length = NA ∧ (Fo A3 lv3 tr3 0).length = NT ∧ A3.length ≤ m + 1 ∧ hb0 ≤ w3.heap.size) := ⟨gw3, gr3, hl3.1, hl3.2, hNA, hNT, by have := gr3.len; omega, Nat.le_trans HF.out.1.top t3.size⟩
    have hed := gedges_any gw3.ok NA hNA
    clear hch t3 gw3 gr3 hl3 hNA hNT z0 z1 z2
    go_wp2_with fail
    refine hed.mono ?_
    rintro e w4 ⟨aA, cA, rfl, hb4, hE4, hfA, -, -⟩
    have htr := gtree_any (H3.out.1.step hb4).ok NT H3.out.2.2.2.2.2.1
    clear hed
    go_wp2_with fail
    refine htr.mono ?_
    rintro e w5 ⟨aT, cT, rfl, hb5, hT5, -, -, -⟩
    have H5 : Hid (GW w0 G A3 lv3 tr3 w5 ∧ TF w5 G.n A3 (Fo A3 lv3 tr3 0) aA aT NA NT ∧ EdgesAt w5 aW AE ∧ LvAt w5 aV AE lv NW ∧ (∀ c, aA = some ⟨c, 0, none⟩ → hb0 ≤ c) ∧ hb0 ≤ w5.heap.size) := by
      have hbx := below_step hb4 hb5
      have hg := H3.out.1.step hbx
      exact ⟨hg, hg.ok.lists (hE4.below hb5) hT5 H3.out.2.2.2.2.1 H3.out.2.2.2.2.2.1, H3.out.2.2.1.below hbx, H3.out.2.2.2.1.below hbx, fun c e => Nat.le_trans H3.out.2.2.2.2.2.2.2 (hfA c e), Nat.le_trans H3.out.2.2.2.2.2.2.2 hbx.size⟩
    have hnw := fnew_any (w := w5) G.n H5.out.2.1.n1 H5.out.2.1.n60
    clear htr hb4 hb5 hE4 hT5 hfA
    go_wp2_with fail
    refine hnw.mono ?_
    rintro e w6 ⟨L, rfl, hb6, f6, hL, hft6⟩
    have H6 : Hid (LinkW w5 L (Fo A3 lv3 tr3 0) (fun _ => true) 0 w6 [] (fun i => i) ∧ L.n = G.n) := ⟨LinkW.start f6 hb6 hft6, hL⟩
    clear hnw hb6 f6 hL hft6
    go_wp2_with fail
    refine ta_loop (w1 := w5) (AE := A3) H5.out.2.1 H6.out.2 H6.out.1 _ ?_ rfl
    rintro A w7 ⟨U7, E7, p7, _, hR, rfl⟩
    have H7 : Hid (GW w0 G A3 lv3 tr3 w7 ∧ TF w7 G.n A3 (Fo A3 lv3 tr3 0) aA aT NA NT ∧ EdgesAt w7 aW AE ∧ LvAt w7 aV AE lv NW ∧ hb0 ≤ w7.heap.size ∧ FAt w7 L E7 p7 ∧ ∀ e ∈ A3, p7 e.1 = p7 e.2) := by
      have hbx := hR.below
      rw [← H5.out.2.1.lt] at hR
      exact ⟨H5.out.1.step hbx, H5.out.2.1.below hbx, H5.out.2.2.1.below hbx, H5.out.2.2.2.1.below hbx, Nat.le_trans H5.out.2.2.2.2.2 hbx.size, hR.f, fun e he => tree_joins H5.out.1.ok hR.conn he⟩
    clear hR
    go_wp2_with fail
    refine tc_loop (w1 := w7) (AE := A3) (T := Fo A3 lv3 tr3 0) (E := E7) (AW := AE) (lv := lv3) (lvw := lv) (tr := tr3) (p := p7) (vn := .slice none 0 0) (tp := 0) H7.out.1.ok H7.out.2.1 H6.out.2 H7.out.2.2.2.2.2.1 H7.out.2.2.2.2.2.2 H7.out.2.2.1 HF.out.1.la (by have := HF.out.1.la; omega) H7.out.2.2.2.1 H3.out.2.1 (fun e he => Nat.le_trans (H7.out.1.ok.low he) (by omega)) (NowW.start w7) _ ?_ rfl
    rintro A w8 ⟨U8, vn, tp, _, hNw, rfl⟩
    obtain ⟨aN, cN, rfl, hLv, hoff⟩ := hNw.list
    have H8 : Hid (GW w0 G A3 lv3 tr3 w8 ∧ TF w8 G.n A3 (Fo A3 lv3 tr3 0) aA aT NA NT ∧ LvAt w8 aN A3 lv3 NA ∧ hb0 ≤ w8.heap.size ∧ tp ≤ 5 ∧ ∀ c, aN = some ⟨c, 0, none⟩ → hb0 ≤ c) := by
      have hbx := hNw.below
      exact ⟨H7.out.1.step hbx, H7.out.2.1.below hbx, hLv, Nat.le_trans H7.out.2.2.2.2.1 hbx.size, hNw.small (by rw [H3.out.2.2.2.2.1]; exact Nat.le_refl _) (fun e he => H7.out.1.ok.low he), fun c e => Nat.le_trans H7.out.2.2.2.2.1 (hoff c e)⟩
    clear hNw hLv hoff
    have t5 : tp ≤ 5 := H8.out.2.2.2.2.1
    go_wp2_with fail
    refine td_loop (w1 := w8) (AE := A3) (T := Fo A3 lv3 tr3 0) (lv := lv3) (tr := tr3) (sz := G.n) H8.out.1.ok H8.out.2.1 rfl H8.out.2.2.1 (fun e he => Nat.le_trans (H8.out.1.ok.low he) (by omega)) (by omega) ⟨Below.refl _ _, by rw [Nat.pow_zero, Nat.div_one]⟩ _ ?_ rfl
    rintro A w9 ⟨U9, sz9, _, ⟨hb9, _⟩, rfl⟩
    have HR : Hid (TS w0 G hb0 aA aN NA A3 lv3 tr3 w9 ∧ A3.length ≤ m + 1) := ⟨(⟨H8.out.1, H8.out.2.1.all, H3.out.2.2.2.2.1, H8.out.2.2.1, H5.out.2.2.2.2.1, H8.out.2.2.2.2.2, H8.out.2.2.2.1⟩ : TS w0 G hb0 aA aN NA A3 lv3 tr3 w8).step hb9, H3.out.2.2.2.2.2.2.1⟩
    have e1 : ¬ ((10 : Int) ≤ (tp : Int)) := by omega
    have e2 : ¬ 10 ≤ tp := by omega
    clear hb9 H8 H7 H6 H5 H3
    go_wp2_with fail
    rw [show ((m : Int) + 1) = ((m + 1 : Nat) : Int) from by omega]
    exact HK.out _ _ (tg_intro _ _ _ _ _ _ _ _ (by omega) HR.out rfl)
  · have d1 : ¬ what < 3 := hw
    have hch : Calls Tryz.prog 7 #[.pointer (some ⟨G.g, 0, none⟩), .int .i64 x, .int .i64 y] (w.alloc (.cells #[.int .i64 what, .int .i64 x, .int .i64 y, .slice al nl cl] 35)) (Changed w0 (w.alloc (.cells #[.int .i64 what, .int .i64 x, .int .i64 y, .slice al nl cl] 35)) G AE lv) := drop_u HF.out.1.gw x y
    clear hw
    conv => arg 2; whnf
    go_wp2_with fail
    generalize (w.alloc (.cells #[.int .i64 what, .int .i64 x, .int .i64 y, .slice al nl cl] 35)) = w2 at *
    refine hch.mono ?_
    rintro e w3 ⟨err, A3, lv3, tr3, rfl, t3, gw3, gr3⟩
    obtain ⟨NA, hNA⟩ : ∃ NA, A3.length = NA := ⟨_, rfl⟩
    obtain ⟨NT, hNT⟩ : ∃ NT, (Fo A3 lv3 tr3 0).length = NT := ⟨_, rfl⟩
    have hl3 := HF.out.1.lists HF.out.2.2 t3
    have H3 : Hid (GW w0 G A3 lv3 tr3 w3 ∧ Grew AE lv A3 lv3 ∧ EdgesAt w3 aW AE ∧ LvAt w3 aV AE lv NW ∧ A3.length = NA ∧ (Fo A3 lv3 tr3 0).length = NT ∧ A3.length ≤ m + 1 ∧ hb0 ≤ w3.heap.size) := ⟨gw3, gr3, hl3.1, hl3.2, hNA, hNT, by have := gr3.len; omega, Nat.le_trans HF.out.1.top t3.size⟩
    have hed := gedges_any gw3.ok NA hNA
    clear hch t3 gw3 gr3 hl3 hNA hNT z0 z1 z2
    go_wp2_with fail
    refine hed.mono ?_
    rintro e w4 ⟨aA, cA, rfl, hb4, hE4, hfA, -, -⟩
    have htr := gtree_any (H3.out.1.step hb4).ok NT H3.out.2.2.2.2.2.1
    clear hed
    go_wp2_with fail
    refine htr.mono ?_
    rintro e w5 ⟨aT, cT, rfl, hb5, hT5, -, -, -⟩
    have H5 : Hid (GW w0 G A3 lv3 tr3 w5 ∧ TF w5 G.n A3 (Fo A3 lv3 tr3 0) aA aT NA NT ∧ EdgesAt w5 aW AE ∧ LvAt w5 aV AE lv NW ∧ (∀ c, aA = some ⟨c, 0, none⟩ → hb0 ≤ c) ∧ hb0 ≤ w5.heap.size) := by
      have hbx := below_step hb4 hb5
      have hg := H3.out.1.step hbx
      exact ⟨hg, hg.ok.lists (hE4.below hb5) hT5 H3.out.2.2.2.2.1 H3.out.2.2.2.2.2.1, H3.out.2.2.1.below hbx, H3.out.2.2.2.1.below hbx, fun c e => Nat.le_trans H3.out.2.2.2.2.2.2.2 (hfA c e), Nat.le_trans H3.out.2.2.2.2.2.2.2 hbx.size⟩
    have hnw := fnew_any (w := w5) G.n H5.out.2.1.n1 H5.out.2.1.n60
    clear htr hb4 hb5 hE4 hT5 hfA
    go_wp2_with fail
    refine hnw.mono ?_
    rintro e w6 ⟨L, rfl, hb6, f6, hL, hft6⟩
    have H6 : Hid (LinkW w5 L (Fo A3 lv3 tr3 0) (fun _ => true) 0 w6 [] (fun i => i) ∧ L.n = G.n) := ⟨LinkW.start f6 hb6 hft6, hL⟩
    clear hnw hb6 f6 hL hft6
    go_wp2_with fail
    refine ta_loop (w1 := w5) (AE := A3) H5.out.2.1 H6.out.2 H6.out.1 _ ?_ rfl
    rintro A w7 ⟨U7, E7, p7, _, hR, rfl⟩
    have H7 : Hid (GW w0 G A3 lv3 tr3 w7 ∧ TF w7 G.n A3 (Fo A3 lv3 tr3 0) aA aT NA NT ∧ EdgesAt w7 aW AE ∧ LvAt w7 aV AE lv NW ∧ hb0 ≤ w7.heap.size ∧ FAt w7 L E7 p7 ∧ ∀ e ∈ A3, p7 e.1 = p7 e.2) := by
      have hbx := hR.below
      rw [← H5.out.2.1.lt] at hR
      exact ⟨H5.out.1.step hbx, H5.out.2.1.below hbx, H5.out.2.2.1.below hbx, H5.out.2.2.2.1.below hbx, Nat.le_trans H5.out.2.2.2.2.2 hbx.size, hR.f, fun e he => tree_joins H5.out.1.ok hR.conn he⟩
    clear hR
    go_wp2_with fail
    refine tc_loop (w1 := w7) (AE := A3) (T := Fo A3 lv3 tr3 0) (E := E7) (AW := AE) (lv := lv3) (lvw := lv) (tr := tr3) (p := p7) (vn := .slice none 0 0) (tp := 0) H7.out.1.ok H7.out.2.1 H6.out.2 H7.out.2.2.2.2.2.1 H7.out.2.2.2.2.2.2 H7.out.2.2.1 HF.out.1.la (by have := HF.out.1.la; omega) H7.out.2.2.2.1 H3.out.2.1 (fun e he => Nat.le_trans (H7.out.1.ok.low he) (by omega)) (NowW.start w7) _ ?_ rfl
    rintro A w8 ⟨U8, vn, tp, _, hNw, rfl⟩
    obtain ⟨aN, cN, rfl, hLv, hoff⟩ := hNw.list
    have H8 : Hid (GW w0 G A3 lv3 tr3 w8 ∧ TF w8 G.n A3 (Fo A3 lv3 tr3 0) aA aT NA NT ∧ LvAt w8 aN A3 lv3 NA ∧ hb0 ≤ w8.heap.size ∧ tp ≤ 5 ∧ ∀ c, aN = some ⟨c, 0, none⟩ → hb0 ≤ c) := by
      have hbx := hNw.below
      exact ⟨H7.out.1.step hbx, H7.out.2.1.below hbx, hLv, Nat.le_trans H7.out.2.2.2.2.1 hbx.size, hNw.small (by rw [H3.out.2.2.2.2.1]; exact Nat.le_refl _) (fun e he => H7.out.1.ok.low he), fun c e => Nat.le_trans H7.out.2.2.2.2.1 (hoff c e)⟩
    clear hNw hLv hoff
    have t5 : tp ≤ 5 := H8.out.2.2.2.2.1
    go_wp2_with fail
    refine td_loop (w1 := w8) (AE := A3) (T := Fo A3 lv3 tr3 0) (lv := lv3) (tr := tr3) (sz := G.n) H8.out.1.ok H8.out.2.1 rfl H8.out.2.2.1 (fun e he => Nat.le_trans (H8.out.1.ok.low he) (by omega)) (by omega) ⟨Below.refl _ _, by rw [Nat.pow_zero, Nat.div_one]⟩ _ ?_ rfl
    rintro A w9 ⟨U9, sz9, _, ⟨hb9, _⟩, rfl⟩
    have HR : Hid (TS w0 G hb0 aA aN NA A3 lv3 tr3 w9 ∧ A3.length ≤ m + 1) := ⟨(⟨H8.out.1, H8.out.2.1.all, H3.out.2.2.2.2.1, H8.out.2.2.1, H5.out.2.2.2.2.1, H8.out.2.2.2.2.2, H8.out.2.2.2.1⟩ : TS w0 G hb0 aA aN NA A3 lv3 tr3 w8).step hb9, H3.out.2.2.2.2.2.2.1⟩
    have e1 : ¬ ((10 : Int) ≤ (tp : Int)) := by omega
    have e2 : ¬ 10 ≤ tp := by omega
    clear hb9 H8 H7 H6 H5 H3
    go_wp2_with fail
    rw [show ((m : Int) + 1) = ((m + 1 : Nat) : Int) from by omega]
    exact HK.out _ _ (tg_intro _ _ _ _ _ _ _ _ (by omega) HR.out rfl)

set_option maxRecDepth 1000000 in
set_option maxHeartbeats 4000000 in
theorem tg_end {w0 : World} {G : GPl} {a : Option Addr} {la ca hb0 : Nat} {m : Nat} {U : Nat → Value} {w : World} {aW aV : Option Addr} {NW cW cV : Nat} {AE : List (Nat × Nat)} {lv : Nat × Nat → Nat} {tr : Nat × Nat → Bool} (hs : Script4 w0 a la) (hft : ∀ c, GFoot G c → c < hb0) (hend : m = min la 60) (hf : (TS w0 G hb0 aW aV NW AE lv tr w ∧ AE.length ≤ m)) (K : Act → World → Prop) (Q : Exit → Act → World → Prop) (hQ : ∀ A w', tgI w0 G a la ca hb0 (min la 60) A w' → Q (.exit 0) A w') :
    (loopAt Tryz.f3 0).wp Tryz.prog (Exit.then K Q) ⟨#[.int .i64 (G.n : Nat), .slice a la ca, U 2, U 3, U 4, U 5, U 6, U 7, .pointer (some ⟨G.g, 0, none⟩), U 9, .slice aW NW cW, .slice aV NW cV, .int .i64 (m : Nat), U 13, U 14, U 15, U 16, U 17, U 18, U 19, U 20, U 21, U 22, U 23, U 24, U 25, U 26, U 27, U 28, U 29, U 30, U 31, U 32, U 33, U 34, U 35, U 36, U 37, U 38, U 39, U 40, U 41, U 42, U 43, U 44, U 45, U 46, U 47, U 48, U 49, U 50, U 51, U 52, U 53, U 54, U 55, U 56, U 57, U 58, U 59, U 60, U 61, U 62, U 63, U 64, U 65, U 66, U 67, U 68, U 69, U 70, U 71, U 72, U 73, U 74, U 75, U 76, U 77, U 78, U 79, U 80, U 81, U 82, U 83, U 84, U 85, U 86, U 87, U 88, U 89, U 90, U 91, U 92, U 93, U 94, U 95, U 96, U 97, U 98, U 99, U 100, U 101, U 102, U 103, U 104, U 105, U 106, U 107, U 108, U 109, U 110, U 111, U 112, U 113, U 114, U 115, U 116, U 117, U 118, U 119, U 120, U 121, U 122, U 123, U 124, U 125, U 126, U 127, U 128, U 129, U 130, U 131, U 132, U 133, U 134, U 135, U 136, U 137, U 138, U 139, U 140, U 141, U 142, U 143, U 144, U 145, U 146, U 147, U 148, U 149, U 150, U 151, U 152, U 153, U 154, U 155, U 156, U 157, U 158, U 159, U 160, U 161, U 162, U 163, U 164, U 165, U 166, U 167, U 168, U 169, U 170, U 171, U 172, U 173, U 174, U 175, U 176, U 177, U 178, U 179, U 180, U 181, U 182, U 183, U 184, U 185, U 186, U 187, U 188, U 189, U 190, U 191, U 192, U 193, U 194, U 195, U 196, U 197, U 198, U 199, U 200, U 201, U 202, U 203, U 204, U 205, U 206, U 207, U 208, U 209, U 210, U 211, U 212, U 213, U 214, U 215, U 216, U 217, U 218, U 219, U 220, U 221, U 222, U 223, U 224, U 225, U 226, U 227, U 228, U 229, U 230, U 231, U 232, U 233, U 234, U 235, U 236, U 237, U 238, U 239, U 240, U 241, U 242, U 243, U 244, U 245, U 246, U 247, U 248, U 249, U 250, U 251, U 252, U 253, U 254, U 255, U 256, U 257, U 258, U 259, U 260, U 261, U 262, U 263, U 264, U 265, U 266, U 267, U 268, U 269, U 270, U 271, U 272, U 273, U 274, U 275, U 276, U 277, U 278, U 279, U 280, U 281, U 282, U 283, U 284, U 285, U 286, U 287, U 288, U 289, U 290, U 291, U 292, U 293, U 294, U 295, U 296, U 297, U 298, U 299, U 300, U 301, U 302, U 303, U 304, U 305, U 306, U 307, U 308, U 309, U 310, U 311, U 312, U 313, U 314, U 315, U 316, U 317, U 318, U 319, U 320, U 321, U 322, U 323, U 324, U 325, U 326, U 327, U 328, U 329, U 330, U 331, U 332, U 333, U 334, U 335, U 336, U 337, U 338, U 339, U 340, U 341, U 342, U 343, U 344, U 345, U 346, U 347, U 348, U 349, U 350, U 351, U 352, U 353, U 354, U 355, U 356, U 357, U 358, U 359, U 360, U 361, U 362, U 363, U 364, U 365, U 366, U 367, U 368, U 369, U 370, U 371, U 372, U 373, U 374, U 375, U 376, U 377, U 378, U 379, U 380, U 381, U 382], []⟩ w := by
  have HQ : Hid (∀ A w', tgI w0 G a la ca hb0 m A w' → Q (.exit 0) A w') := fun A w' h => hQ A w' (by rw [hend] at h; exact h)
  have h1 : m ≤ min la 60 := by omega
  have HF : Hid ((TS w0 G hb0 aW aV NW AE lv tr w ∧ AE.length ≤ m)) := hf
  clear hQ hf
  have hnl : ¬ m < min la 60 := by omega
  clear hend
  by_cases hl : m < la
  · have e60 : ¬ m < 60 := by omega
    clear hnl
    conv => arg 2; whnf
    go_wp2_with fail
    exact HQ.out _ _ (tg_intro _ _ _ _ _ _ _ _ h1 HF.out rfl)
  · clear hnl
    conv => arg 2; whnf
    go_wp2_with fail
    exact HQ.out _ _ (tg_intro _ _ _ _ _ _ _ _ h1 HF.out rfl)

/-- How many rounds are still to come, at most. -/
def tg_togo (B : Nat) (A : Act) (_w : World) : Nat := B - (intOf (A.tmps.getD 12 undef)).toNat

set_option maxRecDepth 1000000 in
theorem tg_togo_is {w0 : World} {G : GPl} {a : Option Addr} {la ca hb0 : Nat} {m : Nat} {A : Act} {w : World} (h : tgI w0 G a la ca hb0 m A w) : tg_togo (min la 60) A w = min la 60 - m := by
  obtain ⟨U, aW, aV, NW, cW, cV, AE, lv, tr,  _, _, rfl⟩ := h
  show min la 60 - ((m : Nat) : Int).toNat = min la 60 - m
  omega

theorem tg_round {w0 : World} {G : GPl} {a : Option Addr} {la ca hb0 : Nat} (hs : Script4 w0 a la) (hft : ∀ c, GFoot G c → c < hb0) (Q : Exit → Act → World → Prop) (hQ : ∀ A w', tgI w0 G a la ca hb0 (min la 60) A w' → Q (.exit 0) A w') (A : Act) (w : World) (h : ∃ m, tgI w0 G a la ca hb0 m A w) :
    (loopAt Tryz.f3 0).wp Tryz.prog (Exit.then (fun A' w' => (∃ m, tgI w0 G a la ca hb0 m A' w') ∧ tg_togo (min la 60) A' w' < tg_togo (min la 60) A w) Q) A w := by
  obtain ⟨m, hI⟩ := h
  have ht := tg_togo_is hI
  obtain ⟨U, aW, aV, NW, cW, cV, AE, lv, tr,  h1, hf, rfl⟩ := hI
  by_cases hend : m = min la 60
  · exact tg_end hs hft hend hf _ _ hQ
  · refine tg_go hs hft (by omega) hf _ _ fun A' w' h' => ⟨⟨m + 1, h'⟩, ?_⟩
    rw [tg_togo_is h', ht]
    omega

set_option maxRecDepth 1000000 in
theorem tg_loop {w0 : World} {G : GPl} {a : Option Addr} {la ca hb0 : Nat} (hs : Script4 w0 a la) (hft : ∀ c, GFoot G c → c < hb0) {w : World} {aW aV : Option Addr} {NW cW cV : Nat} {AE : List (Nat × Nat)} {lv : Nat × Nat → Nat} {tr : Nat × Nat → Bool} (hf : (TS w0 G hb0 aW aV NW AE lv tr w ∧ AE.length ≤ 0)) (Q : Exit → Act → World → Prop) (hQ : ∀ A w', tgI w0 G a la ca hb0 (min la 60) A w' → Q (.exit 0) A w') {A : Act} (hA : A = ⟨#[.int .i64 (G.n : Nat), .slice a la ca, A.tmps.getD 2 undef, A.tmps.getD 3 undef, A.tmps.getD 4 undef, A.tmps.getD 5 undef, A.tmps.getD 6 undef, A.tmps.getD 7 undef, .pointer (some ⟨G.g, 0, none⟩), A.tmps.getD 9 undef, .slice aW NW cW, .slice aV NW cV, .int .i64 0, A.tmps.getD 13 undef, A.tmps.getD 14 undef, A.tmps.getD 15 undef, A.tmps.getD 16 undef, A.tmps.getD 17 undef, A.tmps.getD 18 undef, A.tmps.getD 19 undef, A.tmps.getD 20 undef, A.tmps.getD 21 undef, A.tmps.getD 22 undef, A.tmps.getD 23 undef, A.tmps.getD 24 undef, A.tmps.getD 25 undef, A.tmps.getD 26 undef, A.tmps.getD 27 undef, A.tmps.getD 28 undef, A.tmps.getD 29 undef, A.tmps.getD 30 undef, A.tmps.getD 31 undef, A.tmps.getD 32 undef, A.tmps.getD 33 undef, A.tmps.getD 34 undef, A.tmps.getD 35 undef, A.tmps.getD 36 undef, A.tmps.getD 37 undef, A.tmps.getD 38 undef, A.tmps.getD 39 undef, A.tmps.getD 40 undef, A.tmps.getD 41 undef, A.tmps.getD 42 undef, A.tmps.getD 43 undef, A.tmps.getD 44 undef, A.tmps.getD 45 undef, A.tmps.getD 46 undef, A.tmps.getD 47 undef, A.tmps.getD 48 undef, A.tmps.getD 49 undef, A.tmps.getD 50 undef, A.tmps.getD 51 undef, A.tmps.getD 52 undef, A.tmps.getD 53 undef, A.tmps.getD 54 undef, A.tmps.getD 55 undef, A.tmps.getD 56 undef, A.tmps.getD 57 undef, A.tmps.getD 58 undef, A.tmps.getD 59 undef, A.tmps.getD 60 undef, A.tmps.getD 61 undef, A.tmps.getD 62 undef, A.tmps.getD 63 undef, A.tmps.getD 64 undef, A.tmps.getD 65 undef, A.tmps.getD 66 undef, A.tmps.getD 67 undef, A.tmps.getD 68 undef, A.tmps.getD 69 undef, A.tmps.getD 70 undef, A.tmps.getD 71 undef, A.tmps.getD 72 undef, A.tmps.getD 73 undef, A.tmps.getD 74 undef, A.tmps.getD 75 undef, A.tmps.getD 76 undef, A.tmps.getD 77 undef, A.tmps.getD 78 undef, A.tmps.getD 79 undef, A.tmps.getD 80 undef, A.tmps.getD 81 undef, A.tmps.getD 82 undef, A.tmps.getD 83 undef, A.tmps.getD 84 undef, A.tmps.getD 85 undef, A.tmps.getD 86 undef, A.tmps.getD 87 undef, A.tmps.getD 88 undef, A.tmps.getD 89 undef, A.tmps.getD 90 undef, A.tmps.getD 91 undef, A.tmps.getD 92 undef, A.tmps.getD 93 undef, A.tmps.getD 94 undef, A.tmps.getD 95 undef, A.tmps.getD 96 undef, A.tmps.getD 97 undef, A.tmps.getD 98 undef, A.tmps.getD 99 undef, A.tmps.getD 100 undef, A.tmps.getD 101 undef, A.tmps.getD 102 undef, A.tmps.getD 103 undef, A.tmps.getD 104 undef, A.tmps.getD 105 undef, A.tmps.getD 106 undef, A.tmps.getD 107 undef, A.tmps.getD 108 undef, A.tmps.getD 109 undef, A.tmps.getD 110 undef, A.tmps.getD 111 undef, A.tmps.getD 112 undef, A.tmps.getD 113 undef, A.tmps.getD 114 undef, A.tmps.getD 115 undef, A.tmps.getD 116 undef, A.tmps.getD 117 undef, A.tmps.getD 118 undef, A.tmps.getD 119 undef, A.tmps.getD 120 undef, A.tmps.getD 121 undef, A.tmps.getD 122 undef, A.tmps.getD 123 undef, A.tmps.getD 124 undef, A.tmps.getD 125 undef, A.tmps.getD 126 undef, A.tmps.getD 127 undef, A.tmps.getD 128 undef, A.tmps.getD 129 undef, A.tmps.getD 130 undef, A.tmps.getD 131 undef, A.tmps.getD 132 undef, A.tmps.getD 133 undef, A.tmps.getD 134 undef, A.tmps.getD 135 undef, A.tmps.getD 136 undef, A.tmps.getD 137 undef, A.tmps.getD 138 undef, A.tmps.getD 139 undef, A.tmps.getD 140 undef, A.tmps.getD 141 undef, A.tmps.getD 142 undef, A.tmps.getD 143 undef, A.tmps.getD 144 undef, A.tmps.getD 145 undef, A.tmps.getD 146 undef, A.tmps.getD 147 undef, A.tmps.getD 148 undef, A.tmps.getD 149 undef, A.tmps.getD 150 undef, A.tmps.getD 151 undef, A.tmps.getD 152 undef, A.tmps.getD 153 undef, A.tmps.getD 154 undef, A.tmps.getD 155 undef, A.tmps.getD 156 undef, A.tmps.getD 157 undef, A.tmps.getD 158 undef, A.tmps.getD 159 undef, A.tmps.getD 160 undef, A.tmps.getD 161 undef, A.tmps.getD 162 undef, A.tmps.getD 163 undef, A.tmps.getD 164 undef, A.tmps.getD 165 undef, A.tmps.getD 166 undef, A.tmps.getD 167 undef, A.tmps.getD 168 undef, A.tmps.getD 169 undef, A.tmps.getD 170 undef, A.tmps.getD 171 undef, A.tmps.getD 172 undef, A.tmps.getD 173 undef, A.tmps.getD 174 undef, A.tmps.getD 175 undef, A.tmps.getD 176 undef, A.tmps.getD 177 undef, A.tmps.getD 178 undef, A.tmps.getD 179 undef, A.tmps.getD 180 undef, A.tmps.getD 181 undef, A.tmps.getD 182 undef, A.tmps.getD 183 undef, A.tmps.getD 184 undef, A.tmps.getD 185 undef, A.tmps.getD 186 undef, A.tmps.getD 187 undef, A.tmps.getD 188 undef, A.tmps.getD 189 undef, A.tmps.getD 190 undef, A.tmps.getD 191 undef, A.tmps.getD 192 undef, A.tmps.getD 193 undef, A.tmps.getD 194 undef, A.tmps.getD 195 undef, A.tmps.getD 196 undef, A.tmps.getD 197 undef, A.tmps.getD 198 undef, A.tmps.getD 199 undef, A.tmps.getD 200 undef, A.tmps.getD 201 undef, A.tmps.getD 202 undef, A.tmps.getD 203 undef, A.tmps.getD 204 undef, A.tmps.getD 205 undef, A.tmps.getD 206 undef, A.tmps.getD 207 undef, A.tmps.getD 208 undef, A.tmps.getD 209 undef, A.tmps.getD 210 undef, A.tmps.getD 211 undef, A.tmps.getD 212 undef, A.tmps.getD 213 undef, A.tmps.getD 214 undef, A.tmps.getD 215 undef, A.tmps.getD 216 undef, A.tmps.getD 217 undef, A.tmps.getD 218 undef, A.tmps.getD 219 undef, A.tmps.getD 220 undef, A.tmps.getD 221 undef, A.tmps.getD 222 undef, A.tmps.getD 223 undef, A.tmps.getD 224 undef, A.tmps.getD 225 undef, A.tmps.getD 226 undef, A.tmps.getD 227 undef, A.tmps.getD 228 undef, A.tmps.getD 229 undef, A.tmps.getD 230 undef, A.tmps.getD 231 undef, A.tmps.getD 232 undef, A.tmps.getD 233 undef, A.tmps.getD 234 undef, A.tmps.getD 235 undef, A.tmps.getD 236 undef, A.tmps.getD 237 undef, A.tmps.getD 238 undef, A.tmps.getD 239 undef, A.tmps.getD 240 undef, A.tmps.getD 241 undef, A.tmps.getD 242 undef, A.tmps.getD 243 undef, A.tmps.getD 244 undef, A.tmps.getD 245 undef, A.tmps.getD 246 undef, A.tmps.getD 247 undef, A.tmps.getD 248 undef, A.tmps.getD 249 undef, A.tmps.getD 250 undef, A.tmps.getD 251 undef, A.tmps.getD 252 undef, A.tmps.getD 253 undef, A.tmps.getD 254 undef, A.tmps.getD 255 undef, A.tmps.getD 256 undef, A.tmps.getD 257 undef, A.tmps.getD 258 undef, A.tmps.getD 259 undef, A.tmps.getD 260 undef, A.tmps.getD 261 undef, A.tmps.getD 262 undef, A.tmps.getD 263 undef, A.tmps.getD 264 undef, A.tmps.getD 265 undef, A.tmps.getD 266 undef, A.tmps.getD 267 undef, A.tmps.getD 268 undef, A.tmps.getD 269 undef, A.tmps.getD 270 undef, A.tmps.getD 271 undef, A.tmps.getD 272 undef, A.tmps.getD 273 undef, A.tmps.getD 274 undef, A.tmps.getD 275 undef, A.tmps.getD 276 undef, A.tmps.getD 277 undef, A.tmps.getD 278 undef, A.tmps.getD 279 undef, A.tmps.getD 280 undef, A.tmps.getD 281 undef, A.tmps.getD 282 undef, A.tmps.getD 283 undef, A.tmps.getD 284 undef, A.tmps.getD 285 undef, A.tmps.getD 286 undef, A.tmps.getD 287 undef, A.tmps.getD 288 undef, A.tmps.getD 289 undef, A.tmps.getD 290 undef, A.tmps.getD 291 undef, A.tmps.getD 292 undef, A.tmps.getD 293 undef, A.tmps.getD 294 undef, A.tmps.getD 295 undef, A.tmps.getD 296 undef, A.tmps.getD 297 undef, A.tmps.getD 298 undef, A.tmps.getD 299 undef, A.tmps.getD 300 undef, A.tmps.getD 301 undef, A.tmps.getD 302 undef, A.tmps.getD 303 undef, A.tmps.getD 304 undef, A.tmps.getD 305 undef, A.tmps.getD 306 undef, A.tmps.getD 307 undef, A.tmps.getD 308 undef, A.tmps.getD 309 undef, A.tmps.getD 310 undef, A.tmps.getD 311 undef, A.tmps.getD 312 undef, A.tmps.getD 313 undef, A.tmps.getD 314 undef, A.tmps.getD 315 undef, A.tmps.getD 316 undef, A.tmps.getD 317 undef, A.tmps.getD 318 undef, A.tmps.getD 319 undef, A.tmps.getD 320 undef, A.tmps.getD 321 undef, A.tmps.getD 322 undef, A.tmps.getD 323 undef, A.tmps.getD 324 undef, A.tmps.getD 325 undef, A.tmps.getD 326 undef, A.tmps.getD 327 undef, A.tmps.getD 328 undef, A.tmps.getD 329 undef, A.tmps.getD 330 undef, A.tmps.getD 331 undef, A.tmps.getD 332 undef, A.tmps.getD 333 undef, A.tmps.getD 334 undef, A.tmps.getD 335 undef, A.tmps.getD 336 undef, A.tmps.getD 337 undef, A.tmps.getD 338 undef, A.tmps.getD 339 undef, A.tmps.getD 340 undef, A.tmps.getD 341 undef, A.tmps.getD 342 undef, A.tmps.getD 343 undef, A.tmps.getD 344 undef, A.tmps.getD 345 undef, A.tmps.getD 346 undef, A.tmps.getD 347 undef, A.tmps.getD 348 undef, A.tmps.getD 349 undef, A.tmps.getD 350 undef, A.tmps.getD 351 undef, A.tmps.getD 352 undef, A.tmps.getD 353 undef, A.tmps.getD 354 undef, A.tmps.getD 355 undef, A.tmps.getD 356 undef, A.tmps.getD 357 undef, A.tmps.getD 358 undef, A.tmps.getD 359 undef, A.tmps.getD 360 undef, A.tmps.getD 361 undef, A.tmps.getD 362 undef, A.tmps.getD 363 undef, A.tmps.getD 364 undef, A.tmps.getD 365 undef, A.tmps.getD 366 undef, A.tmps.getD 367 undef, A.tmps.getD 368 undef, A.tmps.getD 369 undef, A.tmps.getD 370 undef, A.tmps.getD 371 undef, A.tmps.getD 372 undef, A.tmps.getD 373 undef, A.tmps.getD 374 undef, A.tmps.getD 375 undef, A.tmps.getD 376 undef, A.tmps.getD 377 undef, A.tmps.getD 378 undef, A.tmps.getD 379 undef, A.tmps.getD 380 undef, A.tmps.getD 381 undef, A.tmps.getD 382 undef], []⟩) : (Code.loop (loopAt Tryz.f3 0)).wp Tryz.prog Q A w :=
  wp_loop (fun A w => ∃ m, tgI w0 G a la ca hb0 m A w) (tg_togo (min la 60)) ⟨0, tg_intro _ _ _ _ _ _ _ _ (Nat.zero_le _) hf hA⟩ (fun A w' h => tg_round hs hft Q hQ A w' h)

end Go.Proofs.YtcebfloeikjjcabGreat.Gr
