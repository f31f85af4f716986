/-
  GraphTrees: the loop that tells the levels.
-/
import Derived.Test.YtcebfloeikjjcabGreatMm
namespace Go.Proofs.YtcebfloeikjjcabGreat.Gr
open Go.RowKit Go.Deep Go.Maps
open Go.RowKit (Below)
set_option linter.unusedVariables false


set_option maxRecDepth 1000000 in
/-- Where the loop stands. -/
def tcI (w1 : World) (G : GPl) (L : Pl) (AE T E AW : List (Nat × Nat)) (aA aT aW aV : Option Addr) (NA NT cA cT NW cW cV bs : Nat) (lv lvw : Nat × Nat → Nat) (tr : Nat × Nat → Bool) (p : Nat → Nat) (c1 c12 : Value) (m : Nat) (A : Act) (w : World) : Prop :=
  ∃ (U : Nat → Value) (vn : Value) (tp : Nat), m ≤ NA ∧ NowW w1 w AE lv m vn tp ∧ A = ⟨#[.int .i64 (G.n : Nat), c1, U 2, U 3, U 4, U 5, U 6, U 7, .pointer (some ⟨G.g, 0, none⟩), U 9, .slice aW NW cW, .slice aV NW cV, c12, .pointer (some ⟨bs, 0, none⟩), .slice aA NA cA, .slice aT NT cT, .pointer (some ⟨L.g, 0, none⟩), U 17, U 18, vn, .int .i64 (tp : Nat), .int .i64 (m : Nat), U 22, U 23, U 24, U 25, U 26, U 27, U 28, U 29, U 30, U 31, U 32, U 33, U 34, U 35, U 36, U 37, U 38, U 39, U 40, U 41, U 42, U 43, U 44, U 45, U 46, U 47, U 48, U 49, U 50, U 51, U 52, U 53, U 54, U 55, U 56, U 57, U 58, U 59, U 60, U 61, U 62, U 63, U 64, U 65, U 66, U 67, U 68, U 69, U 70, U 71, U 72, U 73, U 74, U 75, U 76, U 77, U 78, U 79, U 80, U 81, U 82, U 83, U 84, U 85, U 86, U 87, U 88, U 89, U 90, U 91, U 92, U 93, U 94, U 95, U 96, U 97, U 98, U 99, U 100, U 101, U 102, U 103, U 104, U 105, U 106, U 107, U 108, U 109, U 110, U 111, U 112, U 113, U 114, U 115, U 116, U 117, U 118, U 119, U 120, U 121, U 122, U 123, U 124, U 125, U 126, U 127, U 128, U 129, U 130, U 131, U 132, U 133, U 134, U 135, U 136, U 137, U 138, U 139, U 140, U 141, U 142, U 143, U 144, U 145, U 146, U 147, U 148, U 149, U 150, U 151, U 152, U 153, U 154, U 155, U 156, U 157, U 158, U 159, U 160, U 161, U 162, U 163, U 164, U 165, U 166, U 167, U 168, U 169, U 170, U 171, U 172, U 173, U 174, U 175, U 176, U 177, U 178, U 179, U 180, U 181, U 182, U 183, U 184, U 185, U 186, U 187, U 188, U 189, U 190, U 191, U 192, U 193, U 194, U 195, U 196, U 197, U 198, U 199, U 200, U 201, U 202, U 203, U 204, U 205, U 206, U 207, U 208, U 209, U 210, U 211, U 212, U 213, U 214, U 215, U 216, U 217, U 218, U 219, U 220, U 221, U 222, U 223, U 224, U 225, U 226, U 227, U 228, U 229, U 230, U 231, U 232, U 233, U 234, U 235, U 236, U 237, U 238, U 239, U 240, U 241, U 242, U 243, U 244, U 245, U 246, U 247, U 248, U 249, U 250, U 251, U 252, U 253, U 254, U 255, U 256, U 257, U 258, U 259, U 260, U 261, U 262, U 263, U 264, U 265, U 266, U 267, U 268, U 269, U 270, U 271, U 272, U 273, U 274, U 275, U 276, U 277, U 278, U 279, U 280, U 281, U 282, U 283, U 284, U 285, U 286, U 287, U 288, U 289, U 290, U 291, U 292, U 293, U 294, U 295, U 296, U 297, U 298, U 299, U 300, U 301, U 302, U 303, U 304, U 305, U 306, U 307, U 308, U 309, U 310, U 311, U 312, U 313, U 314, U 315, U 316, U 317, U 318, U 319, U 320, U 321, U 322, U 323, U 324, U 325, U 326, U 327, U 328, U 329, U 330, U 331, U 332, U 333, U 334, U 335, U 336, U 337, U 338, U 339, U 340, U 341, U 342, U 343, U 344, U 345, U 346, U 347, U 348, U 349, U 350, U 351, U 352, U 353, U 354, U 355, U 356, U 357, U 358, U 359, U 360, U 361, U 362, U 363, U 364, U 365, U 366, U 367, U 368, U 369, U 370, U 371, U 372, U 373, U 374, U 375, U 376, U 377, U 378, U 379, U 380, U 381, U 382], []⟩

set_option maxRecDepth 1000000 in
theorem tc_intro {w1 : World} {G : GPl} {L : Pl} {AE T E AW : List (Nat × Nat)} {aA aT aW aV : Option Addr} {NA NT cA cT NW cW cV bs : Nat} {lv lvw : Nat × Nat → Nat} {tr : Nat × Nat → Bool} {p : Nat → Nat} {c1 c12 : Value} {m : Nat} {A : Act} {w : World} (vn : Value) (tp : Nat) (h1 : m ≤ NA) (hf : NowW w1 w AE lv m vn tp) (h : A = ⟨#[.int .i64 (G.n : Nat), c1, A.tmps.getD 2 undef, A.tmps.getD 3 undef, A.tmps.getD 4 undef, A.tmps.getD 5 undef, A.tmps.getD 6 undef, A.tmps.getD 7 undef, .pointer (some ⟨G.g, 0, none⟩), A.tmps.getD 9 undef, .slice aW NW cW, .slice aV NW cV, c12, .pointer (some ⟨bs, 0, none⟩), .slice aA NA cA, .slice aT NT cT, .pointer (some ⟨L.g, 0, none⟩), A.tmps.getD 17 undef, A.tmps.getD 18 undef, vn, .int .i64 (tp : Nat), .int .i64 (m : Nat), A.tmps.getD 22 undef, A.tmps.getD 23 undef, A.tmps.getD 24 undef, A.tmps.getD 25 undef, A.tmps.getD 26 undef, A.tmps.getD 27 undef, A.tmps.getD 28 undef, A.tmps.getD 29 undef, A.tmps.getD 30 undef, A.tmps.getD 31 undef, A.tmps.getD 32 undef, A.tmps.getD 33 undef, A.tmps.getD 34 undef, A.tmps.getD 35 undef, A.tmps.getD 36 undef, A.tmps.getD 37 undef, A.tmps.getD 38 undef, A.tmps.getD 39 undef, A.tmps.getD 40 undef, A.tmps.getD 41 undef, A.tmps.getD 42 undef, A.tmps.getD 43 undef, A.tmps.getD 44 undef, A.tmps.getD 45 undef, A.tmps.getD 46 undef, A.tmps.getD 47 undef, A.tmps.getD 48 undef, A.tmps.getD 49 undef, A.tmps.getD 50 undef, A.tmps.getD 51 undef, A.tmps.getD 52 undef, A.tmps.getD 53 undef, A.tmps.getD 54 undef, A.tmps.getD 55 undef, A.tmps.getD 56 undef, A.tmps.getD 57 undef, A.tmps.getD 58 undef, A.tmps.getD 59 undef, A.tmps.getD 60 undef, A.tmps.getD 61 undef, A.tmps.getD 62 undef, A.tmps.getD 63 undef, A.tmps.getD 64 undef, A.tmps.getD 65 undef, A.tmps.getD 66 undef, A.tmps.getD 67 undef, A.tmps.getD 68 undef, A.tmps.getD 69 undef, A.tmps.getD 70 undef, A.tmps.getD 71 undef, A.tmps.getD 72 undef, A.tmps.getD 73 undef, A.tmps.getD 74 undef, A.tmps.getD 75 undef, A.tmps.getD 76 undef, A.tmps.getD 77 undef, A.tmps.getD 78 undef, A.tmps.getD 79 undef, A.tmps.getD 80 undef, A.tmps.getD 81 undef, A.tmps.getD 82 undef, A.tmps.getD 83 undef, A.tmps.getD 84 undef, A.tmps.getD 85 undef, A.tmps.getD 86 undef, A.tmps.getD 87 undef, A.tmps.getD 88 undef, A.tmps.getD 89 undef, A.tmps.getD 90 undef, A.tmps.getD 91 undef, A.tmps.getD 92 undef, A.tmps.getD 93 undef, A.tmps.getD 94 undef, A.tmps.getD 95 undef, A.tmps.getD 96 undef, A.tmps.getD 97 undef, A.tmps.getD 98 undef, A.tmps.getD 99 undef, A.tmps.getD 100 undef, A.tmps.getD 101 undef, A.tmps.getD 102 undef, A.tmps.getD 103 undef, A.tmps.getD 104 undef, A.tmps.getD 105 undef, A.tmps.getD 106 undef, A.tmps.getD 107 undef, A.tmps.getD 108 undef, A.tmps.getD 109 undef, A.tmps.getD 110 undef, A.tmps.getD 111 undef, A.tmps.getD 112 undef, A.tmps.getD 113 undef, A.tmps.getD 114 undef, A.tmps.getD 115 undef, A.tmps.getD 116 undef, A.tmps.getD 117 undef, A.tmps.getD 118 undef, A.tmps.getD 119 undef, A.tmps.getD 120 undef, A.tmps.getD 121 undef, A.tmps.getD 122 undef, A.tmps.getD 123 undef, A.tmps.getD 124 undef, A.tmps.getD 125 undef, A.tmps.getD 126 undef, A.tmps.getD 127 undef, A.tmps.getD 128 undef, A.tmps.getD 129 undef, A.tmps.getD 130 undef, A.tmps.getD 131 undef, A.tmps.getD 132 undef, A.tmps.getD 133 undef, A.tmps.getD 134 undef, A.tmps.getD 135 undef, A.tmps.getD 136 undef, A.tmps.getD 137 undef, A.tmps.getD 138 undef, A.tmps.getD 139 undef, A.tmps.getD 140 undef, A.tmps.getD 141 undef, A.tmps.getD 142 undef, A.tmps.getD 143 undef, A.tmps.getD 144 undef, A.tmps.getD 145 undef, A.tmps.getD 146 undef, A.tmps.getD 147 undef, A.tmps.getD 148 undef, A.tmps.getD 149 undef, A.tmps.getD 150 undef, A.tmps.getD 151 undef, A.tmps.getD 152 undef, A.tmps.getD 153 undef, A.tmps.getD 154 undef, A.tmps.getD 155 undef, A.tmps.getD 156 undef, A.tmps.getD 157 undef, A.tmps.getD 158 undef, A.tmps.getD 159 undef, A.tmps.getD 160 undef, A.tmps.getD 161 undef, A.tmps.getD 162 undef, A.tmps.getD 163 undef, A.tmps.getD 164 undef, A.tmps.getD 165 undef, A.tmps.getD 166 undef, A.tmps.getD 167 undef, A.tmps.getD 168 undef, A.tmps.getD 169 undef, A.tmps.getD 170 undef, A.tmps.getD 171 undef, A.tmps.getD 172 undef, A.tmps.getD 173 undef, A.tmps.getD 174 undef, A.tmps.getD 175 undef, A.tmps.getD 176 undef, A.tmps.getD 177 undef, A.tmps.getD 178 undef, A.tmps.getD 179 undef, A.tmps.getD 180 undef, A.tmps.getD 181 undef, A.tmps.getD 182 undef, A.tmps.getD 183 undef, A.tmps.getD 184 undef, A.tmps.getD 185 undef, A.tmps.getD 186 undef, A.tmps.getD 187 undef, A.tmps.getD 188 undef, A.tmps.getD 189 undef, A.tmps.getD 190 undef, A.tmps.getD 191 undef, A.tmps.getD 192 undef, A.tmps.getD 193 undef, A.tmps.getD 194 undef, A.tmps.getD 195 undef, A.tmps.getD 196 undef, A.tmps.getD 197 undef, A.tmps.getD 198 undef, A.tmps.getD 199 undef, A.tmps.getD 200 undef, A.tmps.getD 201 undef, A.tmps.getD 202 undef, A.tmps.getD 203 undef, A.tmps.getD 204 undef, A.tmps.getD 205 undef, A.tmps.getD 206 undef, A.tmps.getD 207 undef, A.tmps.getD 208 undef, A.tmps.getD 209 undef, A.tmps.getD 210 undef, A.tmps.getD 211 undef, A.tmps.getD 212 undef, A.tmps.getD 213 undef, A.tmps.getD 214 undef, A.tmps.getD 215 undef, A.tmps.getD 216 undef, A.tmps.getD 217 undef, A.tmps.getD 218 undef, A.tmps.getD 219 undef, A.tmps.getD 220 undef, A.tmps.getD 221 undef, A.tmps.getD 222 undef, A.tmps.getD 223 undef, A.tmps.getD 224 undef, A.tmps.getD 225 undef, A.tmps.getD 226 undef, A.tmps.getD 227 undef, A.tmps.getD 228 undef, A.tmps.getD 229 undef, A.tmps.getD 230 undef, A.tmps.getD 231 undef, A.tmps.getD 232 undef, A.tmps.getD 233 undef, A.tmps.getD 234 undef, A.tmps.getD 235 undef, A.tmps.getD 236 undef, A.tmps.getD 237 undef, A.tmps.getD 238 undef, A.tmps.getD 239 undef, A.tmps.getD 240 undef, A.tmps.getD 241 undef, A.tmps.getD 242 undef, A.tmps.getD 243 undef, A.tmps.getD 244 undef, A.tmps.getD 245 undef, A.tmps.getD 246 undef, A.tmps.getD 247 undef, A.tmps.getD 248 undef, A.tmps.getD 249 undef, A.tmps.getD 250 undef, A.tmps.getD 251 undef, A.tmps.getD 252 undef, A.tmps.getD 253 undef, A.tmps.getD 254 undef, A.tmps.getD 255 undef, A.tmps.getD 256 undef, A.tmps.getD 257 undef, A.tmps.getD 258 undef, A.tmps.getD 259 undef, A.tmps.getD 260 undef, A.tmps.getD 261 undef, A.tmps.getD 262 undef, A.tmps.getD 263 undef, A.tmps.getD 264 undef, A.tmps.getD 265 undef, A.tmps.getD 266 undef, A.tmps.getD 267 undef, A.tmps.getD 268 undef, A.tmps.getD 269 undef, A.tmps.getD 270 undef, A.tmps.getD 271 undef, A.tmps.getD 272 undef, A.tmps.getD 273 undef, A.tmps.getD 274 undef, A.tmps.getD 275 undef, A.tmps.getD 276 undef, A.tmps.getD 277 undef, A.tmps.getD 278 undef, A.tmps.getD 279 undef, A.tmps.getD 280 undef, A.tmps.getD 281 undef, A.tmps.getD 282 undef, A.tmps.getD 283 undef, A.tmps.getD 284 undef, A.tmps.getD 285 undef, A.tmps.getD 286 undef, A.tmps.getD 287 undef, A.tmps.getD 288 undef, A.tmps.getD 289 undef, A.tmps.getD 290 undef, A.tmps.getD 291 undef, A.tmps.getD 292 undef, A.tmps.getD 293 undef, A.tmps.getD 294 undef, A.tmps.getD 295 undef, A.tmps.getD 296 undef, A.tmps.getD 297 undef, A.tmps.getD 298 undef, A.tmps.getD 299 undef, A.tmps.getD 300 undef, A.tmps.getD 301 undef, A.tmps.getD 302 undef, A.tmps.getD 303 undef, A.tmps.getD 304 undef, A.tmps.getD 305 undef, A.tmps.getD 306 undef, A.tmps.getD 307 undef, A.tmps.getD 308 undef, A.tmps.getD 309 undef, A.tmps.getD 310 undef, A.tmps.getD 311 undef, A.tmps.getD 312 undef, A.tmps.getD 313 undef, A.tmps.getD 314 undef, A.tmps.getD 315 undef, A.tmps.getD 316 undef, A.tmps.getD 317 undef, A.tmps.getD 318 undef, A.tmps.getD 319 undef, A.tmps.getD 320 undef, A.tmps.getD 321 undef, A.tmps.getD 322 undef, A.tmps.getD 323 undef, A.tmps.getD 324 undef, A.tmps.getD 325 undef, A.tmps.getD 326 undef, A.tmps.getD 327 undef, A.tmps.getD 328 undef, A.tmps.getD 329 undef, A.tmps.getD 330 undef, A.tmps.getD 331 undef, A.tmps.getD 332 undef, A.tmps.getD 333 undef, A.tmps.getD 334 undef, A.tmps.getD 335 undef, A.tmps.getD 336 undef, A.tmps.getD 337 undef, A.tmps.getD 338 undef, A.tmps.getD 339 undef, A.tmps.getD 340 undef, A.tmps.getD 341 undef, A.tmps.getD 342 undef, A.tmps.getD 343 undef, A.tmps.getD 344 undef, A.tmps.getD 345 undef, A.tmps.getD 346 undef, A.tmps.getD 347 undef, A.tmps.getD 348 undef, A.tmps.getD 349 undef, A.tmps.getD 350 undef, A.tmps.getD 351 undef, A.tmps.getD 352 undef, A.tmps.getD 353 undef, A.tmps.getD 354 undef, A.tmps.getD 355 undef, A.tmps.getD 356 undef, A.tmps.getD 357 undef, A.tmps.getD 358 undef, A.tmps.getD 359 undef, A.tmps.getD 360 undef, A.tmps.getD 361 undef, A.tmps.getD 362 undef, A.tmps.getD 363 undef, A.tmps.getD 364 undef, A.tmps.getD 365 undef, A.tmps.getD 366 undef, A.tmps.getD 367 undef, A.tmps.getD 368 undef, A.tmps.getD 369 undef, A.tmps.getD 370 undef, A.tmps.getD 371 undef, A.tmps.getD 372 undef, A.tmps.getD 373 undef, A.tmps.getD 374 undef, A.tmps.getD 375 undef, A.tmps.getD 376 undef, A.tmps.getD 377 undef, A.tmps.getD 378 undef, A.tmps.getD 379 undef, A.tmps.getD 380 undef, A.tmps.getD 381 undef, A.tmps.getD 382 undef], []⟩) : tcI w1 G L AE T E AW aA aT aW aV NA NT cA cT NW cW cV bs lv lvw tr p c1 c12 m A w :=
  ⟨fun k => A.tmps.getD k undef, vn, tp,  h1, hf, h⟩

set_option maxRecDepth 1000000 in
set_option maxHeartbeats 4000000 in
theorem tc_go {w1 : World} {G : GPl} {L : Pl} {AE T E AW : List (Nat × Nat)} {aA aT aW aV : Option Addr} {NA NT cA cT NW cW cV bs : Nat} {lv lvw : Nat × Nat → Nat} {tr : Nat × Nat → Bool} {p : Nat → Nat} {c1 c12 : Value} {m : Nat} {U : Nat → Value} {w : World} {vn : Value} {tp : Nat} (hok : GOk w1 G AE lv tr) (hF : TF w1 G.n AE T aA aT NA NT) (hL : L.n = G.n) (hf0 : FAt w1 L E p) (hj0 : ∀ e ∈ AE, p e.1 = p e.2) (hW : EdgesAt w1 aW AW) (hWl : AW.length = NW) (hW2 : NW ≤ 200) (hV : LvAt w1 aV AW lvw NW) (hG : Grew AW lvw AE lv) (hb6 : ∀ e ∈ AE, lv e ≤ 60) (hm : m < NA) (hf : NowW w1 w AE lv m vn tp) (K : Act → World → Prop) (Q : Exit → Act → World → Prop) (hK : ∀ A w', tcI w1 G L AE T E AW aA aT aW aV NA NT cA cT NW cW cV bs lv lvw tr p c1 c12 (m + 1) A w' → K A w') :
    (loopAt Tryz.f3 2).wp Tryz.prog (Exit.then K Q) ⟨#[.int .i64 (G.n : Nat), c1, U 2, U 3, U 4, U 5, U 6, U 7, .pointer (some ⟨G.g, 0, none⟩), U 9, .slice aW NW cW, .slice aV NW cV, c12, .pointer (some ⟨bs, 0, none⟩), .slice aA NA cA, .slice aT NT cT, .pointer (some ⟨L.g, 0, none⟩), U 17, U 18, vn, .int .i64 (tp : Nat), .int .i64 (m : Nat), U 22, U 23, U 24, U 25, U 26, U 27, U 28, U 29, U 30, U 31, U 32, U 33, U 34, U 35, U 36, U 37, U 38, U 39, U 40, U 41, U 42, U 43, U 44, U 45, U 46, U 47, U 48, U 49, U 50, U 51, U 52, U 53, U 54, U 55, U 56, U 57, U 58, U 59, U 60, U 61, U 62, U 63, U 64, U 65, U 66, U 67, U 68, U 69, U 70, U 71, U 72, U 73, U 74, U 75, U 76, U 77, U 78, U 79, U 80, U 81, U 82, U 83, U 84, U 85, U 86, U 87, U 88, U 89, U 90, U 91, U 92, U 93, U 94, U 95, U 96, U 97, U 98, U 99, U 100, U 101, U 102, U 103, U 104, U 105, U 106, U 107, U 108, U 109, U 110, U 111, U 112, U 113, U 114, U 115, U 116, U 117, U 118, U 119, U 120, U 121, U 122, U 123, U 124, U 125, U 126, U 127, U 128, U 129, U 130, U 131, U 132, U 133, U 134, U 135, U 136, U 137, U 138, U 139, U 140, U 141, U 142, U 143, U 144, U 145, U 146, U 147, U 148, U 149, U 150, U 151, U 152, U 153, U 154, U 155, U 156, U 157, U 158, U 159, U 160, U 161, U 162, U 163, U 164, U 165, U 166, U 167, U 168, U 169, U 170, U 171, U 172, U 173, U 174, U 175, U 176, U 177, U 178, U 179, U 180, U 181, U 182, U 183, U 184, U 185, U 186, U 187, U 188, U 189, U 190, U 191, U 192, U 193, U 194, U 195, U 196, U 197, U 198, U 199, U 200, U 201, U 202, U 203, U 204, U 205, U 206, U 207, U 208, U 209, U 210, U 211, U 212, U 213, U 214, U 215, U 216, U 217, U 218, U 219, U 220, U 221, U 222, U 223, U 224, U 225, U 226, U 227, U 228, U 229, U 230, U 231, U 232, U 233, U 234, U 235, U 236, U 237, U 238, U 239, U 240, U 241, U 242, U 243, U 244, U 245, U 246, U 247, U 248, U 249, U 250, U 251, U 252, U 253, U 254, U 255, U 256, U 257, U 258, U 259, U 260, U 261, U 262, U 263, U 264, U 265, U 266, U 267, U 268, U 269, U 270, U 271, U 272, U 273, U 274, U 275, U 276, U 277, U 278, U 279, U 280, U 281, U 282, U 283, U 284, U 285, U 286, U 287, U 288, U 289, U 290, U 291, U 292, U 293, U 294, U 295, U 296, U 297, U 298, U 299, U 300, U 301, U 302, U 303, U 304, U 305, U 306, U 307, U 308, U 309, U 310, U 311, U 312, U 313, U 314, U 315, U 316, U 317, U 318, U 319, U 320, U 321, U 322, U 323, U 324, U 325, U 326, U 327, U 328, U 329, U 330, U 331, U 332, U 333, U 334, U 335, U 336, U 337, U 338, U 339, U 340, U 341, U 342, U 343, U 344, U 345, U 346, U 347, U 348, U 349, U 350, U 351, U 352, U 353, U 354, U 355, U 356, U 357, U 358, U 359, U 360, U 361, U 362, U 363, U 364, U 365, U 366, U 367, U 368, U 369, U 370, U 371, U 372, U 373, U 374, U 375, U 376, U 377, U 378, U 379, U 380, U 381, U 382], []⟩ w := by
  have HK : Hid (∀ A w', tcI w1 G L AE T E AW aA aT aW aV NA NT cA cT NW cW cV bs lv lvw tr p c1 c12 (m + 1) A w' → K A w') := hK
  clear hK
  obtain ⟨z0, hi0, hz0, hz1, hz2⟩ := info_parts Tryz.infoInt1
  have hmA : m < AE.length := by rw [hF.la]; exact hm
  obtain ⟨bA, rfl, q1, q2⟩ := hF.all.cell m hmA
  have heA := getD_mem hmA
  have hnd := hF.among _ heA
  have hl := hF.less _ heA
  have hd : Below w.heap.size w w.drew := (Below.refl _ _).drew
  have HB : Hid (Below w1.heap.size w1 w) := hf.below
  have HBd : Hid (Below w1.heap.size w1 w.drew) := below_step hf.below hd
  have hlv := level_at (hok.below HBd.out) _ heA _ rfl
  have hsm : ∀ W, Below w1.heap.size w1 W → _ := fun W hW0 => same_any (hf0.below hW0) (AE.getD m (0, 0)).1 (AE.getD m (0, 0)).2 (by rw [hL]; exact hnd.1) (by rw [hL]; exact hnd.2)
  rw [decide_eq_true (hj0 _ heA)] at hsm
  have hpi : AE.getD m (0, 0) ∈ AW → ∀ W, Below w1.heap.size w1 W → _ := fun hin W hW0 => place_in (c := cW) (hW.below hW0) hWl (by omega) _ hin hl
  have hpo : AE.getD m (0, 0) ∉ AW → ∀ W, Below w1.heap.size w1 W → _ := fun hin W hW0 => place_out (c := cW) (hW.below hW0) hWl (by omega) _ hin hl
  have hlw : ∀ W, Below w1.heap.size w1 W → ∀ j, j < NW → AW.getD j (0, 0) = AE.getD m (0, 0) → ∃ b, aV = some ⟨b, 0, none⟩ ∧ W.cell? ⟨b, j, none⟩ = some (.int .i64 (lvw (AE.getD m (0, 0)) : Nat)) := fun W hW0 j hj he => by
    obtain ⟨b', e', h'⟩ := hV j hj
    rw [he] at h'
    exact ⟨b', e', cell_keep hW0 h'⟩
  have hold : AE.getD m (0, 0) ∈ AW → lvw (AE.getD m (0, 0)) ≤ lv (AE.getD m (0, 0)) := fun hin => hG.old _ heA hin
  have hnew : AE.getD m (0, 0) ∉ AW → lv (AE.getD m (0, 0)) = 0 := fun hin => hG.new _ heA hin
  have hcells : ∀ W, Below w1.heap.size w1 W → W.cell? ⟨bA, m * 2, none⟩ = some (.int .i64 ((AE.getD m (0, 0)).1 : Nat)) ∧ W.cell? ⟨bA, m * 2 + 1, none⟩ = some (.int .i64 ((AE.getD m (0, 0)).2 : Nat)) := fun W hW0 => ⟨cell_keep hW0 q1, cell_keep hW0 q2⟩
  have HNw : Hid (∀ W, Below w.heap.size w W → NowW w1 W AE lv m vn tp) := fun W hW0 => hf.step hW0
  have hna := hF.na
  have hl6 := hb6 _ heA
  obtain ⟨l, hle⟩ : ∃ l, lv (AE.getD m (0, 0)) = l := ⟨_, rfl⟩
  have HLE : Hid (lv (AE.getD m (0, 0)) = l) := hle
  rw [hle] at hlv hold hnew hl6
  clear hf hF heA hnd hmA q1 q2 hd hb6 hj0 hf0 hok hW hWl hV hG hL hle hl
  generalize lvw (AE.getD m (0, 0)) = lw at *
  generalize (AE.getD m (0, 0)).1 = x at *
  generalize (AE.getD m (0, 0)).2 = y at *
  have HSm : Hid (∀ W, Below w1.heap.size w1 W → Calls Tryz.prog 15 #[.pointer (some ⟨L.g, 0, none⟩), .int .i64 (x : Int), .int .i64 (y : Int)] W fun e w' => e = .returned (.tuple #[.bool true, .nilIface]) ∧ Below W.heap.size W w') := hsm
  have HCells : Hid (∀ W, Below w1.heap.size w1 W → W.cell? ⟨bA, m * 2, none⟩ = some (.int .i64 (x : Nat)) ∧ W.cell? ⟨bA, m * 2 + 1, none⟩ = some (.int .i64 (y : Nat))) := hcells
  have i0 : (0 : Int) ≤ (m : Int) := by omega
  have i1 : (m : Int) < (NA : Int) := by omega
  have i2 : ¬ ((l : Int) < 0) := by omega
  have k1 := HCells.out _ HB.out
  clear hcells hsm
  by_cases hin : AE.getD m (0, 0) ∈ AW
  · have HPl : Hid (∀ W, Below w1.heap.size w1 W → Calls Tryz.prog 12 #[.slice aW NW cW, .int .i64 (x : Nat), .int .i64 (y : Nat)] W fun q w' => ∃ j : Nat, j < NW ∧ AW.getD j (0, 0) = AE.getD m (0, 0) ∧ q = .returned (.int .i64 (j : Nat)) ∧ Below W.heap.size W w') := hpi hin
    have HLv : Hid (∀ W, Below w1.heap.size w1 W → ∀ j, j < NW → AW.getD j (0, 0) = AE.getD m (0, 0) → ∃ b, aV = some ⟨b, 0, none⟩ ∧ W.cell? ⟨b, j, none⟩ = some (.int .i64 (lw : Nat))) := hlw
    have hlo : lw ≤ l := hold hin
    clear hpi hpo hlw hold hnew hin
    by_cases hup : tp < l
    · have d1 : (tp : Int) < (l : Int) := by omega
      have d2 : tp < l := by omega
      have HMX : Hid (l = max tp l) := show _ = _ by omega
      clear hup
      conv => arg 2; whnf
      go_wp2_with fail
      go_region_held3 (fun W => W.cell? ⟨bA, m * 2, none⟩ = some (.int .i64 (x : Nat)) ∧ W.cell? ⟨bA, m * 2 + 1, none⟩ = some (.int .i64 (y : Nat))) (first | (go_keep; done) | exact k1 | exact HCells.out _ (below_step HB.out hb2))
        (first
          | (go_at_call 14; refine hlv.mono ?_; rintro e w2 ⟨rfl, hb2⟩; replace hb2 : Below w.heap.size w w2 := below_step (Below.refl _ _).drew hb2))
      have k2 := HCells.out w2 (below_step HB.out hb2)
      have hsm := HSm.out w2.drew (below_step HB.out (below_step hb2 (Below.refl _ _).drew))
      clear hlv
      go_wp2_with fail
      go_region_held3 (fun W => W.cell? ⟨bA, m * 2, none⟩ = some (.int .i64 (x : Nat)) ∧ W.cell? ⟨bA, m * 2 + 1, none⟩ = some (.int .i64 (y : Nat))) (first | (go_keep; done) | exact k2 | exact HCells.out _ (below_step HB.out hb3))
        (first
          | (go_at_call 15; refine hsm.mono ?_; rintro e w3 ⟨rfl, hb3⟩; replace hb3 := below_step (below_step hb2 (Below.refl _ _).drew) hb3))
      have k3 := HCells.out w3 (below_step HB.out hb3)
      have hpl := HPl.out w3.drew (below_step HB.out (below_step hb3 (Below.refl _ _).drew))
      clear hsm
      go_wp2_with fail
      go_region_held3 (fun W => W.cell? ⟨bA, m * 2, none⟩ = some (.int .i64 (x : Nat)) ∧ W.cell? ⟨bA, m * 2 + 1, none⟩ = some (.int .i64 (y : Nat))) (first | (go_keep; done) | exact k3 | exact HCells.out _ (below_step HB.out hb4))
        (first
          | (go_at_call 12; refine hpl.mono ?_; rintro e w4 ⟨jj, hjj, hje, rfl, hb4⟩; replace hb4 := below_step (below_step hb3 (Below.refl _ _).drew) hb4))
      obtain ⟨bV, hbV, n9⟩ := HLv.out w4 (below_step HB.out hb4) jj hjj hje
      subst hbV
      have k9 : (0 : Int) ≤ ((jj : Nat) : Int) := by omega
      have k8 : ((jj : Nat) : Int) < (NW : Nat) := by omega
      have k7 : ¬ ((l : Int) < (lw : Int)) := by omega
      have k6 : ¬ l < lw := by omega
      have k5 : ¬ (((jj : Nat) : Int) < 0) := by omega
      clear hje
      clear hpl
      go_wp2_with fail
      go_quiet (fail)
      have hN5 := HNw.out (w4.drewN nq) (below_step hb4 (below_drewN (n := nq) rfl))
      have ho5 := hN5.own
      have hz5 := hN5.below.size
      have HN5 : Hid _ := hN5
      clear hN5 hb2 hb3 hb4
      generalize hW5 : w4.drewN nq = w5 at *
      clear hW5
      have hcn : ∀ j u, [Value.int .i64 (l : Nat)][j]? = some u → (w5.alloc (.cells #[.int .i64 (l : Nat)] 3)).cell? (Addr.add ⟨w5.heap.size, 0, none⟩ j) = some u := fun j u hj => by
        match j, hj with
        | 0, hj => cases hj; simp [Addr.add]
      go_wp2_with (first
        | (at_builtin; refine wpList_append_own _ rfl (.tmp 256) (.tmp 258) 33 rfl w1.heap.size 3 z0 (.int .i64 0) 1 8 Tryz.underlying33 hi0 hz0 hz1 hz2 rfl (by decide) vn m (lvs AE lv m) rfl (ho5.alloc _) ⟨w5.heap.size, 0, none⟩ 1 1 [.int .i64 (l : Nat)] rfl rfl hcn (by simp [Value.oneCell']) (by unfold maxLen; omega) (by omega) (by first | omega | (simp; omega)) ?_))
      intro v' w6 hown' hgrow hnil
      have HR : Hid (NowW w1 w6 AE lv (m + 1) v' l) := HN5.out.next HLE.out hown' hgrow HMX.out
      clear hown' hgrow hnil ho5 hcn
      go_wp2_with fail
      rw [show ((m : Int) + 1) = ((m + 1 : Nat) : Int) from by omega]
      exact HK.out _ _ (tc_intro _ _ (by omega) HR.out rfl)
    · have d1 : ¬ ((tp : Int) < (l : Int)) := by omega
      have d2 : ¬ tp < l := by omega
      have HMX : Hid (tp = max tp l) := show _ = _ by omega
      clear hup
      conv => arg 2; whnf
      go_wp2_with fail
      go_region_held3 (fun W => W.cell? ⟨bA, m * 2, none⟩ = some (.int .i64 (x : Nat)) ∧ W.cell? ⟨bA, m * 2 + 1, none⟩ = some (.int .i64 (y : Nat))) (first | (go_keep; done) | exact k1 | exact HCells.out _ (below_step HB.out hb2))
        (first
          | (go_at_call 14; refine hlv.mono ?_; rintro e w2 ⟨rfl, hb2⟩; replace hb2 : Below w.heap.size w w2 := below_step (Below.refl _ _).drew hb2))
      have k2 := HCells.out w2 (below_step HB.out hb2)
      have hsm := HSm.out w2.drew (below_step HB.out (below_step hb2 (Below.refl _ _).drew))
      clear hlv
      go_wp2_with fail
      go_region_held3 (fun W => W.cell? ⟨bA, m * 2, none⟩ = some (.int .i64 (x : Nat)) ∧ W.cell? ⟨bA, m * 2 + 1, none⟩ = some (.int .i64 (y : Nat))) (first | (go_keep; done) | exact k2 | exact HCells.out _ (below_step HB.out hb3))
        (first
          | (go_at_call 15; refine hsm.mono ?_; rintro e w3 ⟨rfl, hb3⟩; replace hb3 := below_step (below_step hb2 (Below.refl _ _).drew) hb3))
      have k3 := HCells.out w3 (below_step HB.out hb3)
      have hpl := HPl.out w3.drew (below_step HB.out (below_step hb3 (Below.refl _ _).drew))
      clear hsm
      go_wp2_with fail
      go_region_held3 (fun W => W.cell? ⟨bA, m * 2, none⟩ = some (.int .i64 (x : Nat)) ∧ W.cell? ⟨bA, m * 2 + 1, none⟩ = some (.int .i64 (y : Nat))) (first | (go_keep; done) | exact k3 | exact HCells.out _ (below_step HB.out hb4))
        (first
          | (go_at_call 12; refine hpl.mono ?_; rintro e w4 ⟨jj, hjj, hje, rfl, hb4⟩; replace hb4 := below_step (below_step hb3 (Below.refl _ _).drew) hb4))
      obtain ⟨bV, hbV, n9⟩ := HLv.out w4 (below_step HB.out hb4) jj hjj hje
      subst hbV
      have k9 : (0 : Int) ≤ ((jj : Nat) : Int) := by omega
      have k8 : ((jj : Nat) : Int) < (NW : Nat) := by omega
      have k7 : ¬ ((l : Int) < (lw : Int)) := by omega
      have k6 : ¬ l < lw := by omega
      have k5 : ¬ (((jj : Nat) : Int) < 0) := by omega
      clear hje
      clear hpl
      go_wp2_with fail
      go_quiet (fail)
      have hN5 := HNw.out (w4.drewN nq) (below_step hb4 (below_drewN (n := nq) rfl))
      have ho5 := hN5.own
      have hz5 := hN5.below.size
      have HN5 : Hid _ := hN5
      clear hN5 hb2 hb3 hb4
      generalize hW5 : w4.drewN nq = w5 at *
      clear hW5
      have hcn : ∀ j u, [Value.int .i64 (l : Nat)][j]? = some u → (w5.alloc (.cells #[.int .i64 (l : Nat)] 3)).cell? (Addr.add ⟨w5.heap.size, 0, none⟩ j) = some u := fun j u hj => by
        match j, hj with
        | 0, hj => cases hj; simp [Addr.add]
      go_wp2_with (first
        | (at_builtin; refine wpList_append_own _ rfl (.tmp 256) (.tmp 258) 33 rfl w1.heap.size 3 z0 (.int .i64 0) 1 8 Tryz.underlying33 hi0 hz0 hz1 hz2 rfl (by decide) vn m (lvs AE lv m) rfl (ho5.alloc _) ⟨w5.heap.size, 0, none⟩ 1 1 [.int .i64 (l : Nat)] rfl rfl hcn (by simp [Value.oneCell']) (by unfold maxLen; omega) (by omega) (by first | omega | (simp; omega)) ?_))
      intro v' w6 hown' hgrow hnil
      have HR : Hid (NowW w1 w6 AE lv (m + 1) v' tp) := HN5.out.next HLE.out hown' hgrow HMX.out
      clear hown' hgrow hnil ho5 hcn
      go_wp2_with fail
      rw [show ((m : Int) + 1) = ((m + 1 : Nat) : Int) from by omega]
      exact HK.out _ _ (tc_intro _ _ (by omega) HR.out rfl)
  · have HPl : Hid (∀ W, Below w1.heap.size w1 W → Calls Tryz.prog 12 #[.slice aW NW cW, .int .i64 (x : Nat), .int .i64 (y : Nat)] W fun q w' => q = .returned (.int .i64 (-1)) ∧ Below W.heap.size W w') := hpo hin
    have HZ : Hid (l = 0) := hnew hin
    clear hpi hpo hlw hold hnew hin
    by_cases hup : tp < l
    · have d1 : (tp : Int) < (l : Int) := by omega
      have d2 : tp < l := by omega
      have HMX : Hid (l = max tp l) := show _ = _ by omega
      clear hup
      conv => arg 2; whnf
      go_wp2_with fail
      go_region_held3 (fun W => W.cell? ⟨bA, m * 2, none⟩ = some (.int .i64 (x : Nat)) ∧ W.cell? ⟨bA, m * 2 + 1, none⟩ = some (.int .i64 (y : Nat))) (first | (go_keep; done) | exact k1 | exact HCells.out _ (below_step HB.out hb2))
        (first
          | (go_at_call 14; refine hlv.mono ?_; rintro e w2 ⟨rfl, hb2⟩; replace hb2 : Below w.heap.size w w2 := below_step (Below.refl _ _).drew hb2))
      have k2 := HCells.out w2 (below_step HB.out hb2)
      have hsm := HSm.out w2.drew (below_step HB.out (below_step hb2 (Below.refl _ _).drew))
      clear hlv
      go_wp2_with fail
      go_region_held3 (fun W => W.cell? ⟨bA, m * 2, none⟩ = some (.int .i64 (x : Nat)) ∧ W.cell? ⟨bA, m * 2 + 1, none⟩ = some (.int .i64 (y : Nat))) (first | (go_keep; done) | exact k2 | exact HCells.out _ (below_step HB.out hb3))
        (first
          | (go_at_call 15; refine hsm.mono ?_; rintro e w3 ⟨rfl, hb3⟩; replace hb3 := below_step (below_step hb2 (Below.refl _ _).drew) hb3))
      have k3 := HCells.out w3 (below_step HB.out hb3)
      have hpl := HPl.out w3.drew (below_step HB.out (below_step hb3 (Below.refl _ _).drew))
      clear hsm
      go_wp2_with fail
      go_region_held3 (fun W => W.cell? ⟨bA, m * 2, none⟩ = some (.int .i64 (x : Nat)) ∧ W.cell? ⟨bA, m * 2 + 1, none⟩ = some (.int .i64 (y : Nat))) (first | (go_keep; done) | exact k3 | exact HCells.out _ (below_step HB.out hb4))
        (first
          | (go_at_call 12; refine hpl.mono ?_; rintro e w4 ⟨rfl, hb4⟩; replace hb4 := below_step (below_step hb3 (Below.refl _ _).drew) hb4))
      have k9 : ¬ ((0 : Int) ≤ -1) := by omega
      have k7 : (((l : Nat) : Int) != 0) = false := by rw [HZ.out]; rfl
      clear hpl
      go_wp2_with fail
      go_quiet (fail)
      have hN5 := HNw.out (w4.drewN nq) (below_step hb4 (below_drewN (n := nq) rfl))
      have ho5 := hN5.own
      have hz5 := hN5.below.size
      have HN5 : Hid _ := hN5
      clear hN5 hb2 hb3 hb4
      generalize hW5 : w4.drewN nq = w5 at *
      clear hW5
      have hcn : ∀ j u, [Value.int .i64 (l : Nat)][j]? = some u → (w5.alloc (.cells #[.int .i64 (l : Nat)] 3)).cell? (Addr.add ⟨w5.heap.size, 0, none⟩ j) = some u := fun j u hj => by
        match j, hj with
        | 0, hj => cases hj; simp [Addr.add]
      go_wp2_with (first
        | (at_builtin; refine wpList_append_own _ rfl (.tmp 256) (.tmp 258) 33 rfl w1.heap.size 3 z0 (.int .i64 0) 1 8 Tryz.underlying33 hi0 hz0 hz1 hz2 rfl (by decide) vn m (lvs AE lv m) rfl (ho5.alloc _) ⟨w5.heap.size, 0, none⟩ 1 1 [.int .i64 (l : Nat)] rfl rfl hcn (by simp [Value.oneCell']) (by unfold maxLen; omega) (by omega) (by first | omega | (simp; omega)) ?_))
      intro v' w6 hown' hgrow hnil
      have HR : Hid (NowW w1 w6 AE lv (m + 1) v' l) := HN5.out.next HLE.out hown' hgrow HMX.out
      clear hown' hgrow hnil ho5 hcn
      go_wp2_with fail
      rw [show ((m : Int) + 1) = ((m + 1 : Nat) : Int) from by omega]
      exact HK.out _ _ (tc_intro _ _ (by omega) HR.out rfl)
    · have d1 : ¬ ((tp : Int) < (l : Int)) := by omega
      have d2 : ¬ tp < l := by omega
      have HMX : Hid (tp = max tp l) := show _ = _ by omega
      clear hup
      conv => arg 2; whnf
      go_wp2_with fail
      go_region_held3 (fun W => W.cell? ⟨bA, m * 2, none⟩ = some (.int .i64 (x : Nat)) ∧ W.cell? ⟨bA, m * 2 + 1, none⟩ = some (.int .i64 (y : Nat))) (first | (go_keep; done) | exact k1 | exact HCells.out _ (below_step HB.out hb2))
        (first
          | (go_at_call 14; refine hlv.mono ?_; rintro e w2 ⟨rfl, hb2⟩; replace hb2 : Below w.heap.size w w2 := below_step (Below.refl _ _).drew hb2))
      have k2 := HCells.out w2 (below_step HB.out hb2)
      have hsm := HSm.out w2.drew (below_step HB.out (below_step hb2 (Below.refl _ _).drew))
      clear hlv
      go_wp2_with fail
      go_region_held3 (fun W => W.cell? ⟨bA, m * 2, none⟩ = some (.int .i64 (x : Nat)) ∧ W.cell? ⟨bA, m * 2 + 1, none⟩ = some (.int .i64 (y : Nat))) (first | (go_keep; done) | exact k2 | exact HCells.out _ (below_step HB.out hb3))
        (first
          | (go_at_call 15; refine hsm.mono ?_; rintro e w3 ⟨rfl, hb3⟩; replace hb3 := below_step (below_step hb2 (Below.refl _ _).drew) hb3))
      have k3 := HCells.out w3 (below_step HB.out hb3)
      have hpl := HPl.out w3.drew (below_step HB.out (below_step hb3 (Below.refl _ _).drew))
      clear hsm
      go_wp2_with fail
      go_region_held3 (fun W => W.cell? ⟨bA, m * 2, none⟩ = some (.int .i64 (x : Nat)) ∧ W.cell? ⟨bA, m * 2 + 1, none⟩ = some (.int .i64 (y : Nat))) (first | (go_keep; done) | exact k3 | exact HCells.out _ (below_step HB.out hb4))
        (first
          | (go_at_call 12; refine hpl.mono ?_; rintro e w4 ⟨rfl, hb4⟩; replace hb4 := below_step (below_step hb3 (Below.refl _ _).drew) hb4))
      have k9 : ¬ ((0 : Int) ≤ -1) := by omega
      have k7 : (((l : Nat) : Int) != 0) = false := by rw [HZ.out]; rfl
      clear hpl
      go_wp2_with fail
      go_quiet (fail)
      have hN5 := HNw.out (w4.drewN nq) (below_step hb4 (below_drewN (n := nq) rfl))
      have ho5 := hN5.own
      have hz5 := hN5.below.size
      have HN5 : Hid _ := hN5
      clear hN5 hb2 hb3 hb4
      generalize hW5 : w4.drewN nq = w5 at *
      clear hW5
      have hcn : ∀ j u, [Value.int .i64 (l : Nat)][j]? = some u → (w5.alloc (.cells #[.int .i64 (l : Nat)] 3)).cell? (Addr.add ⟨w5.heap.size, 0, none⟩ j) = some u := fun j u hj => by
        match j, hj with
        | 0, hj => cases hj; simp [Addr.add]
      go_wp2_with (first
        | (at_builtin; refine wpList_append_own _ rfl (.tmp 256) (.tmp 258) 33 rfl w1.heap.size 3 z0 (.int .i64 0) 1 8 Tryz.underlying33 hi0 hz0 hz1 hz2 rfl (by decide) vn m (lvs AE lv m) rfl (ho5.alloc _) ⟨w5.heap.size, 0, none⟩ 1 1 [.int .i64 (l : Nat)] rfl rfl hcn (by simp [Value.oneCell']) (by unfold maxLen; omega) (by omega) (by first | omega | (simp; omega)) ?_))
      intro v' w6 hown' hgrow hnil
      have HR : Hid (NowW w1 w6 AE lv (m + 1) v' tp) := HN5.out.next HLE.out hown' hgrow HMX.out
      clear hown' hgrow hnil ho5 hcn
      go_wp2_with fail
      rw [show ((m : Int) + 1) = ((m + 1 : Nat) : Int) from by omega]
      exact HK.out _ _ (tc_intro _ _ (by omega) HR.out rfl)


set_option maxRecDepth 1000000 in
set_option maxHeartbeats 4000000 in
theorem tc_end {w1 : World} {G : GPl} {L : Pl} {AE T E AW : List (Nat × Nat)} {aA aT aW aV : Option Addr} {NA NT cA cT NW cW cV bs : Nat} {lv lvw : Nat × Nat → Nat} {tr : Nat × Nat → Bool} {p : Nat → Nat} {c1 c12 : Value} {m : Nat} {U : Nat → Value} {w : World} {vn : Value} {tp : Nat} (hok : GOk w1 G AE lv tr) (hF : TF w1 G.n AE T aA aT NA NT) (hL : L.n = G.n) (hf0 : FAt w1 L E p) (hj0 : ∀ e ∈ AE, p e.1 = p e.2) (hW : EdgesAt w1 aW AW) (hWl : AW.length = NW) (hW2 : NW ≤ 200) (hV : LvAt w1 aV AW lvw NW) (hG : Grew AW lvw AE lv) (hb6 : ∀ e ∈ AE, lv e ≤ 60) (hend : m = NA) (hf : NowW w1 w AE lv m vn tp) (K : Act → World → Prop) (Q : Exit → Act → World → Prop) (hQ : ∀ A w', tcI w1 G L AE T E AW aA aT aW aV NA NT cA cT NW cW cV bs lv lvw tr p c1 c12 (NA) A w' → Q (.exit 4) A w') :
    (loopAt Tryz.f3 2).wp Tryz.prog (Exit.then K Q) ⟨#[.int .i64 (G.n : Nat), c1, U 2, U 3, U 4, U 5, U 6, U 7, .pointer (some ⟨G.g, 0, none⟩), U 9, .slice aW NW cW, .slice aV NW cV, c12, .pointer (some ⟨bs, 0, none⟩), .slice aA NA cA, .slice aT NT cT, .pointer (some ⟨L.g, 0, none⟩), U 17, U 18, vn, .int .i64 (tp : Nat), .int .i64 (m : Nat), U 22, U 23, U 24, U 25, U 26, U 27, U 28, U 29, U 30, U 31, U 32, U 33, U 34, U 35, U 36, U 37, U 38, U 39, U 40, U 41, U 42, U 43, U 44, U 45, U 46, U 47, U 48, U 49, U 50, U 51, U 52, U 53, U 54, U 55, U 56, U 57, U 58, U 59, U 60, U 61, U 62, U 63, U 64, U 65, U 66, U 67, U 68, U 69, U 70, U 71, U 72, U 73, U 74, U 75, U 76, U 77, U 78, U 79, U 80, U 81, U 82, U 83, U 84, U 85, U 86, U 87, U 88, U 89, U 90, U 91, U 92, U 93, U 94, U 95, U 96, U 97, U 98, U 99, U 100, U 101, U 102, U 103, U 104, U 105, U 106, U 107, U 108, U 109, U 110, U 111, U 112, U 113, U 114, U 115, U 116, U 117, U 118, U 119, U 120, U 121, U 122, U 123, U 124, U 125, U 126, U 127, U 128, U 129, U 130, U 131, U 132, U 133, U 134, U 135, U 136, U 137, U 138, U 139, U 140, U 141, U 142, U 143, U 144, U 145, U 146, U 147, U 148, U 149, U 150, U 151, U 152, U 153, U 154, U 155, U 156, U 157, U 158, U 159, U 160, U 161, U 162, U 163, U 164, U 165, U 166, U 167, U 168, U 169, U 170, U 171, U 172, U 173, U 174, U 175, U 176, U 177, U 178, U 179, U 180, U 181, U 182, U 183, U 184, U 185, U 186, U 187, U 188, U 189, U 190, U 191, U 192, U 193, U 194, U 195, U 196, U 197, U 198, U 199, U 200, U 201, U 202, U 203, U 204, U 205, U 206, U 207, U 208, U 209, U 210, U 211, U 212, U 213, U 214, U 215, U 216, U 217, U 218, U 219, U 220, U 221, U 222, U 223, U 224, U 225, U 226, U 227, U 228, U 229, U 230, U 231, U 232, U 233, U 234, U 235, U 236, U 237, U 238, U 239, U 240, U 241, U 242, U 243, U 244, U 245, U 246, U 247, U 248, U 249, U 250, U 251, U 252, U 253, U 254, U 255, U 256, U 257, U 258, U 259, U 260, U 261, U 262, U 263, U 264, U 265, U 266, U 267, U 268, U 269, U 270, U 271, U 272, U 273, U 274, U 275, U 276, U 277, U 278, U 279, U 280, U 281, U 282, U 283, U 284, U 285, U 286, U 287, U 288, U 289, U 290, U 291, U 292, U 293, U 294, U 295, U 296, U 297, U 298, U 299, U 300, U 301, U 302, U 303, U 304, U 305, U 306, U 307, U 308, U 309, U 310, U 311, U 312, U 313, U 314, U 315, U 316, U 317, U 318, U 319, U 320, U 321, U 322, U 323, U 324, U 325, U 326, U 327, U 328, U 329, U 330, U 331, U 332, U 333, U 334, U 335, U 336, U 337, U 338, U 339, U 340, U 341, U 342, U 343, U 344, U 345, U 346, U 347, U 348, U 349, U 350, U 351, U 352, U 353, U 354, U 355, U 356, U 357, U 358, U 359, U 360, U 361, U 362, U 363, U 364, U 365, U 366, U 367, U 368, U 369, U 370, U 371, U 372, U 373, U 374, U 375, U 376, U 377, U 378, U 379, U 380, U 381, U 382], []⟩ w := by
  have HQ : Hid (∀ A w', tcI w1 G L AE T E AW aA aT aW aV NA NT cA cT NW cW cV bs lv lvw tr p c1 c12 m A w' → Q (.exit 4) A w') := fun A w' h => hQ A w' (by rw [hend] at h; exact h)
  have h1 : m ≤ NA := by omega
  have HF : Hid (NowW w1 w AE lv m vn tp) := hf
  clear hQ hf
  have hnl : ¬ m < NA := by omega
  clear hend
  conv => arg 2; whnf
  go_wp2_with fail
  exact HQ.out _ _ (tc_intro _ _ h1 HF.out rfl)

/-- How many rounds are still to come, at most. -/
def tc_togo (B : Nat) (A : Act) (_w : World) : Nat := B - (intOf (A.tmps.getD 21 undef)).toNat

set_option maxRecDepth 1000000 in
theorem tc_togo_is {w1 : World} {G : GPl} {L : Pl} {AE T E AW : List (Nat × Nat)} {aA aT aW aV : Option Addr} {NA NT cA cT NW cW cV bs : Nat} {lv lvw : Nat × Nat → Nat} {tr : Nat × Nat → Bool} {p : Nat → Nat} {c1 c12 : Value} {m : Nat} {A : Act} {w : World} (h : tcI w1 G L AE T E AW aA aT aW aV NA NT cA cT NW cW cV bs lv lvw tr p c1 c12 m A w) : tc_togo (NA) A w = NA - m := by
  obtain ⟨U, vn, tp,  _, _, rfl⟩ := h
  show NA - ((m : Nat) : Int).toNat = NA - m
  omega

theorem tc_round {w1 : World} {G : GPl} {L : Pl} {AE T E AW : List (Nat × Nat)} {aA aT aW aV : Option Addr} {NA NT cA cT NW cW cV bs : Nat} {lv lvw : Nat × Nat → Nat} {tr : Nat × Nat → Bool} {p : Nat → Nat} {c1 c12 : Value} (hok : GOk w1 G AE lv tr) (hF : TF w1 G.n AE T aA aT NA NT) (hL : L.n = G.n) (hf0 : FAt w1 L E p) (hj0 : ∀ e ∈ AE, p e.1 = p e.2) (hW : EdgesAt w1 aW AW) (hWl : AW.length = NW) (hW2 : NW ≤ 200) (hV : LvAt w1 aV AW lvw NW) (hG : Grew AW lvw AE lv) (hb6 : ∀ e ∈ AE, lv e ≤ 60) (Q : Exit → Act → World → Prop) (hQ : ∀ A w', tcI w1 G L AE T E AW aA aT aW aV NA NT cA cT NW cW cV bs lv lvw tr p c1 c12 (NA) A w' → Q (.exit 4) A w') (A : Act) (w : World) (h : ∃ m, tcI w1 G L AE T E AW aA aT aW aV NA NT cA cT NW cW cV bs lv lvw tr p c1 c12 m A w) :
    (loopAt Tryz.f3 2).wp Tryz.prog (Exit.then (fun A' w' => (∃ m, tcI w1 G L AE T E AW aA aT aW aV NA NT cA cT NW cW cV bs lv lvw tr p c1 c12 m A' w') ∧ tc_togo (NA) A' w' < tc_togo (NA) A w) Q) A w := by
  obtain ⟨m, hI⟩ := h
  have ht := tc_togo_is hI
  obtain ⟨U, vn, tp,  h1, hf, rfl⟩ := hI
  by_cases hend : m = NA
  · exact tc_end hok hF hL hf0 hj0 hW hWl hW2 hV hG hb6 hend hf _ _ hQ
  · refine tc_go hok hF hL hf0 hj0 hW hWl hW2 hV hG hb6 (by omega) hf _ _ fun A' w' h' => ⟨⟨m + 1, h'⟩, ?_⟩
    rw [tc_togo_is h', ht]
    omega

set_option maxRecDepth 1000000 in
theorem tc_loop {w1 : World} {G : GPl} {L : Pl} {AE T E AW : List (Nat × Nat)} {aA aT aW aV : Option Addr} {NA NT cA cT NW cW cV bs : Nat} {lv lvw : Nat × Nat → Nat} {tr : Nat × Nat → Bool} {p : Nat → Nat} {c1 c12 : Value} (hok : GOk w1 G AE lv tr) (hF : TF w1 G.n AE T aA aT NA NT) (hL : L.n = G.n) (hf0 : FAt w1 L E p) (hj0 : ∀ e ∈ AE, p e.1 = p e.2) (hW : EdgesAt w1 aW AW) (hWl : AW.length = NW) (hW2 : NW ≤ 200) (hV : LvAt w1 aV AW lvw NW) (hG : Grew AW lvw AE lv) (hb6 : ∀ e ∈ AE, lv e ≤ 60) {w : World} {vn : Value} {tp : Nat} (hf : NowW w1 w AE lv 0 vn tp) (Q : Exit → Act → World → Prop) (hQ : ∀ A w', tcI w1 G L AE T E AW aA aT aW aV NA NT cA cT NW cW cV bs lv lvw tr p c1 c12 (NA) A w' → Q (.exit 4) A w') {A : Act} (hA : A = ⟨#[.int .i64 (G.n : Nat), c1, A.tmps.getD 2 undef, A.tmps.getD 3 undef, A.tmps.getD 4 undef, A.tmps.getD 5 undef, A.tmps.getD 6 undef, A.tmps.getD 7 undef, .pointer (some ⟨G.g, 0, none⟩), A.tmps.getD 9 undef, .slice aW NW cW, .slice aV NW cV, c12, .pointer (some ⟨bs, 0, none⟩), .slice aA NA cA, .slice aT NT cT, .pointer (some ⟨L.g, 0, none⟩), A.tmps.getD 17 undef, A.tmps.getD 18 undef, vn, .int .i64 (tp : Nat), .int .i64 0, A.tmps.getD 22 undef, A.tmps.getD 23 undef, A.tmps.getD 24 undef, A.tmps.getD 25 undef, A.tmps.getD 26 undef, A.tmps.getD 27 undef, A.tmps.getD 28 undef, A.tmps.getD 29 undef, A.tmps.getD 30 undef, A.tmps.getD 31 undef, A.tmps.getD 32 undef, A.tmps.getD 33 undef, A.tmps.getD 34 undef, A.tmps.getD 35 undef, A.tmps.getD 36 undef, A.tmps.getD 37 undef, A.tmps.getD 38 undef, A.tmps.getD 39 undef, A.tmps.getD 40 undef, A.tmps.getD 41 undef, A.tmps.getD 42 undef, A.tmps.getD 43 undef, A.tmps.getD 44 undef, A.tmps.getD 45 undef, A.tmps.getD 46 undef, A.tmps.getD 47 undef, A.tmps.getD 48 undef, A.tmps.getD 49 undef, A.tmps.getD 50 undef, A.tmps.getD 51 undef, A.tmps.getD 52 undef, A.tmps.getD 53 undef, A.tmps.getD 54 undef, A.tmps.getD 55 undef, A.tmps.getD 56 undef, A.tmps.getD 57 undef, A.tmps.getD 58 undef, A.tmps.getD 59 undef, A.tmps.getD 60 undef, A.tmps.getD 61 undef, A.tmps.getD 62 undef, A.tmps.getD 63 undef, A.tmps.getD 64 undef, A.tmps.getD 65 undef, A.tmps.getD 66 undef, A.tmps.getD 67 undef, A.tmps.getD 68 undef, A.tmps.getD 69 undef, A.tmps.getD 70 undef, A.tmps.getD 71 undef, A.tmps.getD 72 undef, A.tmps.getD 73 undef, A.tmps.getD 74 undef, A.tmps.getD 75 undef, A.tmps.getD 76 undef, A.tmps.getD 77 undef, A.tmps.getD 78 undef, A.tmps.getD 79 undef, A.tmps.getD 80 undef, A.tmps.getD 81 undef, A.tmps.getD 82 undef, A.tmps.getD 83 undef, A.tmps.getD 84 undef, A.tmps.getD 85 undef, A.tmps.getD 86 undef, A.tmps.getD 87 undef, A.tmps.getD 88 undef, A.tmps.getD 89 undef, A.tmps.getD 90 undef, A.tmps.getD 91 undef, A.tmps.getD 92 undef, A.tmps.getD 93 undef, A.tmps.getD 94 undef, A.tmps.getD 95 undef, A.tmps.getD 96 undef, A.tmps.getD 97 undef, A.tmps.getD 98 undef, A.tmps.getD 99 undef, A.tmps.getD 100 undef, A.tmps.getD 101 undef, A.tmps.getD 102 undef, A.tmps.getD 103 undef, A.tmps.getD 104 undef, A.tmps.getD 105 undef, A.tmps.getD 106 undef, A.tmps.getD 107 undef, A.tmps.getD 108 undef, A.tmps.getD 109 undef, A.tmps.getD 110 undef, A.tmps.getD 111 undef, A.tmps.getD 112 undef, A.tmps.getD 113 undef, A.tmps.getD 114 undef, A.tmps.getD 115 undef, A.tmps.getD 116 undef, A.tmps.getD 117 undef, A.tmps.getD 118 undef, A.tmps.getD 119 undef, A.tmps.getD 120 undef, A.tmps.getD 121 undef, A.tmps.getD 122 undef, A.tmps.getD 123 undef, A.tmps.getD 124 undef, A.tmps.getD 125 undef, A.tmps.getD 126 undef, A.tmps.getD 127 undef, A.tmps.getD 128 undef, A.tmps.getD 129 undef, A.tmps.getD 130 undef, A.tmps.getD 131 undef, A.tmps.getD 132 undef, A.tmps.getD 133 undef, A.tmps.getD 134 undef, A.tmps.getD 135 undef, A.tmps.getD 136 undef, A.tmps.getD 137 undef, A.tmps.getD 138 undef, A.tmps.getD 139 undef, A.tmps.getD 140 undef, A.tmps.getD 141 undef, A.tmps.getD 142 undef, A.tmps.getD 143 undef, A.tmps.getD 144 undef, A.tmps.getD 145 undef, A.tmps.getD 146 undef, A.tmps.getD 147 undef, A.tmps.getD 148 undef, A.tmps.getD 149 undef, A.tmps.getD 150 undef, A.tmps.getD 151 undef, A.tmps.getD 152 undef, A.tmps.getD 153 undef, A.tmps.getD 154 undef, A.tmps.getD 155 undef, A.tmps.getD 156 undef, A.tmps.getD 157 undef, A.tmps.getD 158 undef, A.tmps.getD 159 undef, A.tmps.getD 160 undef, A.tmps.getD 161 undef, A.tmps.getD 162 undef, A.tmps.getD 163 undef, A.tmps.getD 164 undef, A.tmps.getD 165 undef, A.tmps.getD 166 undef, A.tmps.getD 167 undef, A.tmps.getD 168 undef, A.tmps.getD 169 undef, A.tmps.getD 170 undef, A.tmps.getD 171 undef, A.tmps.getD 172 undef, A.tmps.getD 173 undef, A.tmps.getD 174 undef, A.tmps.getD 175 undef, A.tmps.getD 176 undef, A.tmps.getD 177 undef, A.tmps.getD 178 undef, A.tmps.getD 179 undef, A.tmps.getD 180 undef, A.tmps.getD 181 undef, A.tmps.getD 182 undef, A.tmps.getD 183 undef, A.tmps.getD 184 undef, A.tmps.getD 185 undef, A.tmps.getD 186 undef, A.tmps.getD 187 undef, A.tmps.getD 188 undef, A.tmps.getD 189 undef, A.tmps.getD 190 undef, A.tmps.getD 191 undef, A.tmps.getD 192 undef, A.tmps.getD 193 undef, A.tmps.getD 194 undef, A.tmps.getD 195 undef, A.tmps.getD 196 undef, A.tmps.getD 197 undef, A.tmps.getD 198 undef, A.tmps.getD 199 undef, A.tmps.getD 200 undef, A.tmps.getD 201 undef, A.tmps.getD 202 undef, A.tmps.getD 203 undef, A.tmps.getD 204 undef, A.tmps.getD 205 undef, A.tmps.getD 206 undef, A.tmps.getD 207 undef, A.tmps.getD 208 undef, A.tmps.getD 209 undef, A.tmps.getD 210 undef, A.tmps.getD 211 undef, A.tmps.getD 212 undef, A.tmps.getD 213 undef, A.tmps.getD 214 undef, A.tmps.getD 215 undef, A.tmps.getD 216 undef, A.tmps.getD 217 undef, A.tmps.getD 218 undef, A.tmps.getD 219 undef, A.tmps.getD 220 undef, A.tmps.getD 221 undef, A.tmps.getD 222 undef, A.tmps.getD 223 undef, A.tmps.getD 224 undef, A.tmps.getD 225 undef, A.tmps.getD 226 undef, A.tmps.getD 227 undef, A.tmps.getD 228 undef, A.tmps.getD 229 undef, A.tmps.getD 230 undef, A.tmps.getD 231 undef, A.tmps.getD 232 undef, A.tmps.getD 233 undef, A.tmps.getD 234 undef, A.tmps.getD 235 undef, A.tmps.getD 236 undef, A.tmps.getD 237 undef, A.tmps.getD 238 undef, A.tmps.getD 239 undef, A.tmps.getD 240 undef, A.tmps.getD 241 undef, A.tmps.getD 242 undef, A.tmps.getD 243 undef, A.tmps.getD 244 undef, A.tmps.getD 245 undef, A.tmps.getD 246 undef, A.tmps.getD 247 undef, A.tmps.getD 248 undef, A.tmps.getD 249 undef, A.tmps.getD 250 undef, A.tmps.getD 251 undef, A.tmps.getD 252 undef, A.tmps.getD 253 undef, A.tmps.getD 254 undef, A.tmps.getD 255 undef, A.tmps.getD 256 undef, A.tmps.getD 257 undef, A.tmps.getD 258 undef, A.tmps.getD 259 undef, A.tmps.getD 260 undef, A.tmps.getD 261 undef, A.tmps.getD 262 undef, A.tmps.getD 263 undef, A.tmps.getD 264 undef, A.tmps.getD 265 undef, A.tmps.getD 266 undef, A.tmps.getD 267 undef, A.tmps.getD 268 undef, A.tmps.getD 269 undef, A.tmps.getD 270 undef, A.tmps.getD 271 undef, A.tmps.getD 272 undef, A.tmps.getD 273 undef, A.tmps.getD 274 undef, A.tmps.getD 275 undef, A.tmps.getD 276 undef, A.tmps.getD 277 undef, A.tmps.getD 278 undef, A.tmps.getD 279 undef, A.tmps.getD 280 undef, A.tmps.getD 281 undef, A.tmps.getD 282 undef, A.tmps.getD 283 undef, A.tmps.getD 284 undef, A.tmps.getD 285 undef, A.tmps.getD 286 undef, A.tmps.getD 287 undef, A.tmps.getD 288 undef, A.tmps.getD 289 undef, A.tmps.getD 290 undef, A.tmps.getD 291 undef, A.tmps.getD 292 undef, A.tmps.getD 293 undef, A.tmps.getD 294 undef, A.tmps.getD 295 undef, A.tmps.getD 296 undef, A.tmps.getD 297 undef, A.tmps.getD 298 undef, A.tmps.getD 299 undef, A.tmps.getD 300 undef, A.tmps.getD 301 undef, A.tmps.getD 302 undef, A.tmps.getD 303 undef, A.tmps.getD 304 undef, A.tmps.getD 305 undef, A.tmps.getD 306 undef, A.tmps.getD 307 undef, A.tmps.getD 308 undef, A.tmps.getD 309 undef, A.tmps.getD 310 undef, A.tmps.getD 311 undef, A.tmps.getD 312 undef, A.tmps.getD 313 undef, A.tmps.getD 314 undef, A.tmps.getD 315 undef, A.tmps.getD 316 undef, A.tmps.getD 317 undef, A.tmps.getD 318 undef, A.tmps.getD 319 undef, A.tmps.getD 320 undef, A.tmps.getD 321 undef, A.tmps.getD 322 undef, A.tmps.getD 323 undef, A.tmps.getD 324 undef, A.tmps.getD 325 undef, A.tmps.getD 326 undef, A.tmps.getD 327 undef, A.tmps.getD 328 undef, A.tmps.getD 329 undef, A.tmps.getD 330 undef, A.tmps.getD 331 undef, A.tmps.getD 332 undef, A.tmps.getD 333 undef, A.tmps.getD 334 undef, A.tmps.getD 335 undef, A.tmps.getD 336 undef, A.tmps.getD 337 undef, A.tmps.getD 338 undef, A.tmps.getD 339 undef, A.tmps.getD 340 undef, A.tmps.getD 341 undef, A.tmps.getD 342 undef, A.tmps.getD 343 undef, A.tmps.getD 344 undef, A.tmps.getD 345 undef, A.tmps.getD 346 undef, A.tmps.getD 347 undef, A.tmps.getD 348 undef, A.tmps.getD 349 undef, A.tmps.getD 350 undef, A.tmps.getD 351 undef, A.tmps.getD 352 undef, A.tmps.getD 353 undef, A.tmps.getD 354 undef, A.tmps.getD 355 undef, A.tmps.getD 356 undef, A.tmps.getD 357 undef, A.tmps.getD 358 undef, A.tmps.getD 359 undef, A.tmps.getD 360 undef, A.tmps.getD 361 undef, A.tmps.getD 362 undef, A.tmps.getD 363 undef, A.tmps.getD 364 undef, A.tmps.getD 365 undef, A.tmps.getD 366 undef, A.tmps.getD 367 undef, A.tmps.getD 368 undef, A.tmps.getD 369 undef, A.tmps.getD 370 undef, A.tmps.getD 371 undef, A.tmps.getD 372 undef, A.tmps.getD 373 undef, A.tmps.getD 374 undef, A.tmps.getD 375 undef, A.tmps.getD 376 undef, A.tmps.getD 377 undef, A.tmps.getD 378 undef, A.tmps.getD 379 undef, A.tmps.getD 380 undef, A.tmps.getD 381 undef, A.tmps.getD 382 undef], []⟩) : (Code.loop (loopAt Tryz.f3 2)).wp Tryz.prog Q A w :=
  wp_loop (fun A w => ∃ m, tcI w1 G L AE T E AW aA aT aW aV NA NT cA cT NW cW cV bs lv lvw tr p c1 c12 m A w) (tc_togo (NA)) ⟨0, tc_intro _ _ (Nat.zero_le _) hf hA⟩ (fun A w' h => tc_round hok hF hL hf0 hj0 hW hWl hW2 hV hG hb6 Q hQ A w' h)

end Go.Proofs.YtcebfloeikjjcabGreat.Gr
