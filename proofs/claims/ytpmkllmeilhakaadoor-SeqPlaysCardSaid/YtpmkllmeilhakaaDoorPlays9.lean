/-
  SeqPlays: the switch whole; a round of the script.
-/
import Derived.Test.YtpmkllmeilhakaaDoorPlays5
import Derived.Test.YtpmkllmeilhakaaDoorPlays6
import Derived.Test.YtpmkllmeilhakaaDoorPlays7
import Derived.Test.YtpmkllmeilhakaaDoorPlays8
import Derived.Deep.DeepCutAuto
import Derived.Deep.CutBlock
namespace Go.Proofs.YtpmkllmeilhakaaDoor
open Go.RowKit Go.Deep
set_option linter.unusedVariables false

set_option maxRecDepth 1000000 in
theorem sw_any {w0 wr : World} {a : Option Addr} {n cap m : Nat} {U : Nat → Value} {r v : Value} {es : List El} {gs : Nat} {what x y : Int} {al : Option Addr} {nl cl ka kb : Nat} {xs : List Int} (h0 : ErrType w0) (hst : Stand w0 wr r v es) (hlen : es.length ≤ 81) (hpos : 0 < es.length)
    (hv : StepVar w0 wr gs what x y al nl cl xs) (hka : ka < es.length) (hkb : kb < es.length) :
    ((Tryd.f3.body.bind (blockOf 2)).getD .skip).wp Tryd.prog (fun e A w' => e = .normal ∧ After w0 a n cap m es.length A w') ⟨#[.slice a n cap, U 1, U 2, r, v, .int .i64 (m : Int), .pointer (some ⟨gs, 0, none⟩), .int .i64 (ka : Int), .int .i64 (kb : Int), .int .i64 0, U 10, U 11, U 12, U 13, U 14, U 15, U 16, U 17, U 18, U 19, U 20, U 21, U 22, U 23, U 24, U 25, U 26, U 27, U 28, U 29, U 30, U 31, U 32, U 33, U 34, U 35, U 36, U 37, U 38, U 39, U 40, U 41, U 42, U 43, U 44, U 45, U 46, U 47, U 48, U 49, U 50, U 51, U 52, U 53, U 54, U 55, U 56, U 57, .int .i64 what, U 59, U 60, U 61, U 62, U 63, U 64, U 65, U 66, U 67, U 68, U 69, U 70, U 71, U 72, U 73, U 74, U 75, U 76, U 77, U 78, U 79, U 80, U 81, U 82, U 83, U 84, U 85, U 86, U 87, U 88, U 89, U 90, U 91, U 92, U 93, U 94, U 95, U 96, U 97, U 98, U 99, U 100, U 101, U 102, U 103, U 104, U 105, U 106, U 107, U 108, U 109, U 110, U 111, U 112, U 113, U 114, U 115, U 116, U 117, U 118, U 119, U 120, U 121, U 122, U 123, U 124, U 125, U 126, U 127, U 128, U 129, U 130, U 131, U 132, U 133, U 134, U 135, U 136, U 137, U 138, U 139, U 140, U 141, U 142, U 143, U 144, U 145, U 146, U 147, U 148, U 149, U 150, U 151, U 152, U 153, U 154, U 155, U 156, U 157, U 158, U 159, U 160, U 161, U 162, U 163, U 164, U 165, U 166, U 167, U 168, U 169, U 170, U 171, U 172, U 173, U 174, U 175, U 176, U 177, U 178, U 179, U 180, U 181, U 182, U 183, U 184, U 185, U 186, U 187, U 188, U 189, U 190, U 191, U 192, U 193, U 194, U 195, U 196, U 197, U 198, U 199, U 200, U 201, U 202, U 203, U 204, U 205, U 206, U 207, U 208, U 209, U 210, U 211, U 212, U 213, U 214, U 215, U 216, U 217, U 218, U 219, U 220, U 221, U 222, U 223, U 224, U 225, U 226, U 227, U 228, U 229, U 230, U 231, U 232, U 233, U 234, U 235, U 236, U 237, U 238, U 239, U 240, U 241, U 242, U 243, U 244, U 245, U 246, U 247, U 248, U 249, U 250, U 251, U 252, U 253, U 254, U 255, U 256, U 257, U 258, U 259, U 260, U 261, U 262, U 263, U 264, U 265, U 266, U 267, U 268, U 269, U 270, U 271, U 272, U 273, U 274, U 275, U 276, U 277, U 278, U 279, U 280, U 281, U 282, U 283, U 284, U 285, U 286, U 287, U 288, U 289, U 290, U 291, U 292, U 293, U 294, U 295, U 296, U 297, U 298, U 299, U 300, U 301, U 302, U 303, U 304, U 305, U 306, U 307, U 308, U 309, U 310], []⟩ wr := by
  obtain ⟨xa, hxa⟩ : ∃ z, es[ka]? = some z := ⟨_, List.getElem?_eq_getElem hka⟩
  obtain ⟨xb, hxb⟩ : ∃ z, es[kb]? = some z := ⟨_, List.getElem?_eq_getElem hkb⟩
  have ua : ∀ z, es[ka]? = some z → z = xa := fun z hz => by rw [hxa] at hz; exact (Option.some.inj hz).symm
  have ub : ∀ z, es[kb]? = some z → z = xb := fun z hz => by rw [hxb] at hz; exact (Option.some.inj hz).symm
  by_cases e0 : what = 0
  · by_cases hl : nl ≤ 400
    · exact sw0_ok h0 hst hlen hpos hv hka hkb e0 hl
    · exact sw0_full h0 hst hlen hpos hv hka hkb e0 (by omega)
  by_cases e1 : what = 1
  · by_cases hl : xa.n + xb.n ≤ 400
    · exact sw1_ok h0 hst hlen hpos hv hka hkb e1 (fun a b ha hb => by rw [ua a ha, ub b hb]; exact hl)
    · exact sw1_full h0 hst hlen hpos hv hka hkb e1 (fun a b ha hb => by rw [ua a ha, ub b hb]; omega)
  by_cases e2 : what = 2
  · by_cases hl : xa.n + xb.n ≤ 400
    · exact sw2_ok h0 hst hlen hpos hv hka hkb e2 (fun a b ha hb => by rw [ua a ha, ub b hb]; exact hl)
    · exact sw2_full h0 hst hlen hpos hv hka hkb e2 (fun a b ha hb => by rw [ua a ha, ub b hb]; omega)
  by_cases e3 : what = 3
  · by_cases hy : y < 0
    · exact sw3_low h0 hst hlen hpos hv hka hkb e3 hy
    · by_cases hl : (xa.n : Int) < y
      · exact sw3_high h0 hst hlen hpos hv hka hkb e3 (by omega) (fun a ha => by rw [ua a ha]; exact hl)
      · obtain ⟨k, hk⟩ := Int.eq_ofNat_of_zero_le (Int.not_lt.1 hy)
        exact sw3_ok h0 hst hlen hpos hv hka hkb e3 k hk (fun a ha => by rw [ua a ha]; omega)
  have d0 : (what == 0) = false := by rw [beq_eq_false_iff_ne]; exact e0
  have d1 : (what == 1) = false := by rw [beq_eq_false_iff_ne]; exact e1
  have d2 : (what == 2) = false := by rw [beq_eq_false_iff_ne]; exact e2
  have d3 : (what == 3) = false := by rw [beq_eq_false_iff_ne]; exact e3
  by_cases hy : y < 0
  · exact swd_low h0 hst hlen hpos hv hka hkb d0 d1 d2 d3 hy
  · by_cases hl : (xa.n : Int) ≤ y
    · exact swd_high h0 hst hlen hpos hv hka hkb d0 d1 d2 d3 (by omega) (fun a ha => by rw [ua a ha]; exact hl)
    · obtain ⟨k, hk⟩ := Int.eq_ofNat_of_zero_le (Int.not_lt.1 hy)
      exact swd_ok h0 hst hlen hpos hv hka hkb d0 d1 d2 d3 k hk (fun a ha => by rw [ua a ha]; omega)

set_option maxRecDepth 1000000 in
theorem sw_at {w0 wr : World} {a : Option Addr} {n cap m : Nat} {r v : Value} {es : List El} {gs : Nat} {what x y : Int} {al : Option Addr} {nl cl ka kb : Nat} {xs : List Int} (h0 : ErrType w0) (hst : Stand w0 wr r v es) (hlen : es.length ≤ 81) (hpos : 0 < es.length)
    (hv : StepVar w0 wr gs what x y al nl cl xs) (hka : ka < es.length) (hkb : kb < es.length) {A : Act} (hA : A = ⟨#[.slice a n cap, A.tmps.getD 1 undef, A.tmps.getD 2 undef, r, v, .int .i64 (m : Int), .pointer (some ⟨gs, 0, none⟩), .int .i64 (ka : Int), .int .i64 (kb : Int), .int .i64 0, A.tmps.getD 10 undef, A.tmps.getD 11 undef, A.tmps.getD 12 undef, A.tmps.getD 13 undef, A.tmps.getD 14 undef, A.tmps.getD 15 undef, A.tmps.getD 16 undef, A.tmps.getD 17 undef, A.tmps.getD 18 undef, A.tmps.getD 19 undef, A.tmps.getD 20 undef, A.tmps.getD 21 undef, A.tmps.getD 22 undef, A.tmps.getD 23 undef, A.tmps.getD 24 undef, A.tmps.getD 25 undef, A.tmps.getD 26 undef, A.tmps.getD 27 undef, A.tmps.getD 28 undef, A.tmps.getD 29 undef, A.tmps.getD 30 undef, A.tmps.getD 31 undef, A.tmps.getD 32 undef, A.tmps.getD 33 undef, A.tmps.getD 34 undef, A.tmps.getD 35 undef, A.tmps.getD 36 undef, A.tmps.getD 37 undef, A.tmps.getD 38 undef, A.tmps.getD 39 undef, A.tmps.getD 40 undef, A.tmps.getD 41 undef, A.tmps.getD 42 undef, A.tmps.getD 43 undef, A.tmps.getD 44 undef, A.tmps.getD 45 undef, A.tmps.getD 46 undef, A.tmps.getD 47 undef, A.tmps.getD 48 undef, A.tmps.getD 49 undef, A.tmps.getD 50 undef, A.tmps.getD 51 undef, A.tmps.getD 52 undef, A.tmps.getD 53 undef, A.tmps.getD 54 undef, A.tmps.getD 55 undef, A.tmps.getD 56 undef, A.tmps.getD 57 undef, .int .i64 what, A.tmps.getD 59 undef, A.tmps.getD 60 undef, A.tmps.getD 61 undef, A.tmps.getD 62 undef, A.tmps.getD 63 undef, A.tmps.getD 64 undef, A.tmps.getD 65 undef, A.tmps.getD 66 undef, A.tmps.getD 67 undef, A.tmps.getD 68 undef, A.tmps.getD 69 undef, A.tmps.getD 70 undef, A.tmps.getD 71 undef, A.tmps.getD 72 undef, A.tmps.getD 73 undef, A.tmps.getD 74 undef, A.tmps.getD 75 undef, A.tmps.getD 76 undef, A.tmps.getD 77 undef, A.tmps.getD 78 undef, A.tmps.getD 79 undef, A.tmps.getD 80 undef, A.tmps.getD 81 undef, A.tmps.getD 82 undef, A.tmps.getD 83 undef, A.tmps.getD 84 undef, A.tmps.getD 85 undef, A.tmps.getD 86 undef, A.tmps.getD 87 undef, A.tmps.getD 88 undef, A.tmps.getD 89 undef, A.tmps.getD 90 undef, A.tmps.getD 91 undef, A.tmps.getD 92 undef, A.tmps.getD 93 undef, A.tmps.getD 94 undef, A.tmps.getD 95 undef, A.tmps.getD 96 undef, A.tmps.getD 97 undef, A.tmps.getD 98 undef, A.tmps.getD 99 undef, A.tmps.getD 100 undef, A.tmps.getD 101 undef, A.tmps.getD 102 undef, A.tmps.getD 103 undef, A.tmps.getD 104 undef, A.tmps.getD 105 undef, A.tmps.getD 106 undef, A.tmps.getD 107 undef, A.tmps.getD 108 undef, A.tmps.getD 109 undef, A.tmps.getD 110 undef, A.tmps.getD 111 undef, A.tmps.getD 112 undef, A.tmps.getD 113 undef, A.tmps.getD 114 undef, A.tmps.getD 115 undef, A.tmps.getD 116 undef, A.tmps.getD 117 undef, A.tmps.getD 118 undef, A.tmps.getD 119 undef, A.tmps.getD 120 undef, A.tmps.getD 121 undef, A.tmps.getD 122 undef, A.tmps.getD 123 undef, A.tmps.getD 124 undef, A.tmps.getD 125 undef, A.tmps.getD 126 undef, A.tmps.getD 127 undef, A.tmps.getD 128 undef, A.tmps.getD 129 undef, A.tmps.getD 130 undef, A.tmps.getD 131 undef, A.tmps.getD 132 undef, A.tmps.getD 133 undef, A.tmps.getD 134 undef, A.tmps.getD 135 undef, A.tmps.getD 136 undef, A.tmps.getD 137 undef, A.tmps.getD 138 undef, A.tmps.getD 139 undef, A.tmps.getD 140 undef, A.tmps.getD 141 undef, A.tmps.getD 142 undef, A.tmps.getD 143 undef, A.tmps.getD 144 undef, A.tmps.getD 145 undef, A.tmps.getD 146 undef, A.tmps.getD 147 undef, A.tmps.getD 148 undef, A.tmps.getD 149 undef, A.tmps.getD 150 undef, A.tmps.getD 151 undef, A.tmps.getD 152 undef, A.tmps.getD 153 undef, A.tmps.getD 154 undef, A.tmps.getD 155 undef, A.tmps.getD 156 undef, A.tmps.getD 157 undef, A.tmps.getD 158 undef, A.tmps.getD 159 undef, A.tmps.getD 160 undef, A.tmps.getD 161 undef, A.tmps.getD 162 undef, A.tmps.getD 163 undef, A.tmps.getD 164 undef, A.tmps.getD 165 undef, A.tmps.getD 166 undef, A.tmps.getD 167 undef, A.tmps.getD 168 undef, A.tmps.getD 169 undef, A.tmps.getD 170 undef, A.tmps.getD 171 undef, A.tmps.getD 172 undef, A.tmps.getD 173 undef, A.tmps.getD 174 undef, A.tmps.getD 175 undef, A.tmps.getD 176 undef, A.tmps.getD 177 undef, A.tmps.getD 178 undef, A.tmps.getD 179 undef, A.tmps.getD 180 undef, A.tmps.getD 181 undef, A.tmps.getD 182 undef, A.tmps.getD 183 undef, A.tmps.getD 184 undef, A.tmps.getD 185 undef, A.tmps.getD 186 undef, A.tmps.getD 187 undef, A.tmps.getD 188 undef, A.tmps.getD 189 undef, A.tmps.getD 190 undef, A.tmps.getD 191 undef, A.tmps.getD 192 undef, A.tmps.getD 193 undef, A.tmps.getD 194 undef, A.tmps.getD 195 undef, A.tmps.getD 196 undef, A.tmps.getD 197 undef, A.tmps.getD 198 undef, A.tmps.getD 199 undef, A.tmps.getD 200 undef, A.tmps.getD 201 undef, A.tmps.getD 202 undef, A.tmps.getD 203 undef, A.tmps.getD 204 undef, A.tmps.getD 205 undef, A.tmps.getD 206 undef, A.tmps.getD 207 undef, A.tmps.getD 208 undef, A.tmps.getD 209 undef, A.tmps.getD 210 undef, A.tmps.getD 211 undef, A.tmps.getD 212 undef, A.tmps.getD 213 undef, A.tmps.getD 214 undef, A.tmps.getD 215 undef, A.tmps.getD 216 undef, A.tmps.getD 217 undef, A.tmps.getD 218 undef, A.tmps.getD 219 undef, A.tmps.getD 220 undef, A.tmps.getD 221 undef, A.tmps.getD 222 undef, A.tmps.getD 223 undef, A.tmps.getD 224 undef, A.tmps.getD 225 undef, A.tmps.getD 226 undef, A.tmps.getD 227 undef, A.tmps.getD 228 undef, A.tmps.getD 229 undef, A.tmps.getD 230 undef, A.tmps.getD 231 undef, A.tmps.getD 232 undef, A.tmps.getD 233 undef, A.tmps.getD 234 undef, A.tmps.getD 235 undef, A.tmps.getD 236 undef, A.tmps.getD 237 undef, A.tmps.getD 238 undef, A.tmps.getD 239 undef, A.tmps.getD 240 undef, A.tmps.getD 241 undef, A.tmps.getD 242 undef, A.tmps.getD 243 undef, A.tmps.getD 244 undef, A.tmps.getD 245 undef, A.tmps.getD 246 undef, A.tmps.getD 247 undef, A.tmps.getD 248 undef, A.tmps.getD 249 undef, A.tmps.getD 250 undef, A.tmps.getD 251 undef, A.tmps.getD 252 undef, A.tmps.getD 253 undef, A.tmps.getD 254 undef, A.tmps.getD 255 undef, A.tmps.getD 256 undef, A.tmps.getD 257 undef, A.tmps.getD 258 undef, A.tmps.getD 259 undef, A.tmps.getD 260 undef, A.tmps.getD 261 undef, A.tmps.getD 262 undef, A.tmps.getD 263 undef, A.tmps.getD 264 undef, A.tmps.getD 265 undef, A.tmps.getD 266 undef, A.tmps.getD 267 undef, A.tmps.getD 268 undef, A.tmps.getD 269 undef, A.tmps.getD 270 undef, A.tmps.getD 271 undef, A.tmps.getD 272 undef, A.tmps.getD 273 undef, A.tmps.getD 274 undef, A.tmps.getD 275 undef, A.tmps.getD 276 undef, A.tmps.getD 277 undef, A.tmps.getD 278 undef, A.tmps.getD 279 undef, A.tmps.getD 280 undef, A.tmps.getD 281 undef, A.tmps.getD 282 undef, A.tmps.getD 283 undef, A.tmps.getD 284 undef, A.tmps.getD 285 undef, A.tmps.getD 286 undef, A.tmps.getD 287 undef, A.tmps.getD 288 undef, A.tmps.getD 289 undef, A.tmps.getD 290 undef, A.tmps.getD 291 undef, A.tmps.getD 292 undef, A.tmps.getD 293 undef, A.tmps.getD 294 undef, A.tmps.getD 295 undef, A.tmps.getD 296 undef, A.tmps.getD 297 undef, A.tmps.getD 298 undef, A.tmps.getD 299 undef, A.tmps.getD 300 undef, A.tmps.getD 301 undef, A.tmps.getD 302 undef, A.tmps.getD 303 undef, A.tmps.getD 304 undef, A.tmps.getD 305 undef, A.tmps.getD 306 undef, A.tmps.getD 307 undef, A.tmps.getD 308 undef, A.tmps.getD 309 undef, A.tmps.getD 310 undef], []⟩) :
    ((Tryd.f3.body.bind (blockOf 2)).getD .skip).wp Tryd.prog (fun e A w' => e = .normal ∧ After w0 a n cap m es.length A w') A wr := by
  have h := sw_any (a := a) (n := n) (cap := cap) (m := m) (U := fun k => A.tmps.getD k undef) h0 hst hlen hpos hv hka hkb
  rw [← hA] at h
  exact h

theorem own_old {w0 w : World} {a : Option Addr} {n c : Nat} {xs : List Int} (h : IntsAt w0 a n c xs) : Own w0.heap.size w a n := fun b o e => by
  rcases Nat.eq_zero_or_pos n with h0 | h0
  · exact Or.inl h0
  · obtain ⟨b', o', e', hc⟩ := h.cell 0 h0
    rw [e] at e'
    simp only [Option.some.injEq, Addr.mk.injEq, and_true] at e'
    obtain ⟨rfl, rfl⟩ := e'
    exact Or.inr (Or.inl (World.block_lt_of_cell? _ _ hc))

end Go.Proofs.YtpmkllmeilhakaaDoor
