/-
  SeqPlays, a step that asks for an item.
-/
import Derived.Test.YtpmkllmeilhakaaDoorPlays4
import Derived.Test.YtpmkllmeilhakaaDoorWalks6
import Derived.BigQuiet
import Derived.Deep.QuietTactic
import Derived.Deep.DeepCutAuto
import Derived.Deep.CutBlock
namespace Go.Proofs.YtpmkllmeilhakaaDoor
open Go.RowKit Go.Deep
set_option linter.unusedVariables false

set_option maxRecDepth 1000000 in
set_option maxHeartbeats 4000000 in
theorem swd_low {w0 wr : World} {a : Option Addr} {n cap m : Nat} {U : Nat → Value} {r v : Value} {es : List El} {gs : Nat} {what x y : Int} {al : Option Addr} {nl cl ka kb : Nat} {xs : List Int} (h0 : ErrType w0) (hst : Stand w0 wr r v es) (hlen : es.length ≤ 81) (hpos : 0 < es.length)
    (hv : StepVar w0 wr gs what x y al nl cl xs) (hka : ka < es.length) (hkb : kb < es.length) (d0 : (what == 0) = false) (d1 : (what == 1) = false) (d2 : (what == 2) = false) (d3 : (what == 3) = false) (hy : y < 0) :
    ((Tryd.f3.body.bind (blockOf 2)).getD .skip).wp Tryd.prog (fun e A w' => e = .normal ∧ After w0 a n cap m es.length A w') ⟨#[.slice a n cap, U 1, U 2, r, v, .int .i64 (m : Int), .pointer (some ⟨gs, 0, none⟩), .int .i64 (ka : Int), .int .i64 (kb : Int), .int .i64 0, U 10, U 11, U 12, U 13, U 14, U 15, U 16, U 17, U 18, U 19, U 20, U 21, U 22, U 23, U 24, U 25, U 26, U 27, U 28, U 29, U 30, U 31, U 32, U 33, U 34, U 35, U 36, U 37, U 38, U 39, U 40, U 41, U 42, U 43, U 44, U 45, U 46, U 47, U 48, U 49, U 50, U 51, U 52, U 53, U 54, U 55, U 56, U 57, .int .i64 what, U 59, U 60, U 61, U 62, U 63, U 64, U 65, U 66, U 67, U 68, U 69, U 70, U 71, U 72, U 73, U 74, U 75, U 76, U 77, U 78, U 79, U 80, U 81, U 82, U 83, U 84, U 85, U 86, U 87, U 88, U 89, U 90, U 91, U 92, U 93, U 94, U 95, U 96, U 97, U 98, U 99, U 100, U 101, U 102, U 103, U 104, U 105, U 106, U 107, U 108, U 109, U 110, U 111, U 112, U 113, U 114, U 115, U 116, U 117, U 118, U 119, U 120, U 121, U 122, U 123, U 124, U 125, U 126, U 127, U 128, U 129, U 130, U 131, U 132, U 133, U 134, U 135, U 136, U 137, U 138, U 139, U 140, U 141, U 142, U 143, U 144, U 145, U 146, U 147, U 148, U 149, U 150, U 151, U 152, U 153, U 154, U 155, U 156, U 157, U 158, U 159, U 160, U 161, U 162, U 163, U 164, U 165, U 166, U 167, U 168, U 169, U 170, U 171, U 172, U 173, U 174, U 175, U 176, U 177, U 178, U 179, U 180, U 181, U 182, U 183, U 184, U 185, U 186, U 187, U 188, U 189, U 190, U 191, U 192, U 193, U 194, U 195, U 196, U 197, U 198, U 199, U 200, U 201, U 202, U 203, U 204, U 205, U 206, U 207, U 208, U 209, U 210, U 211, U 212, U 213, U 214, U 215, U 216, U 217, U 218, U 219, U 220, U 221, U 222, U 223, U 224, U 225, U 226, U 227, U 228, U 229, U 230, U 231, U 232, U 233, U 234, U 235, U 236, U 237, U 238, U 239, U 240, U 241, U 242, U 243, U 244, U 245, U 246, U 247, U 248, U 249, U 250, U 251, U 252, U 253, U 254, U 255, U 256, U 257, U 258, U 259, U 260, U 261, U 262, U 263, U 264, U 265, U 266, U 267, U 268, U 269, U 270, U 271, U 272, U 273, U 274, U 275, U 276, U 277, U 278, U 279, U 280, U 281, U 282, U 283, U 284, U 285, U 286, U 287, U 288, U 289, U 290, U 291, U 292, U 293, U 294, U 295, U 296, U 297, U 298, U 299, U 300, U 301, U 302, U 303, U 304, U 305, U 306, U 307, U 308, U 309, U 310], []⟩ wr := by
  obtain ⟨gr, cr, rfl, hr1, hr2, hcr⟩ := own_cell hst.rows hpos
  obtain ⟨gw, cw, rfl, hw1, hw2, hcw⟩ := own_cell hst.want hpos
  obtain ⟨xa, hxa⟩ : ∃ z, es[ka]? = some z := ⟨_, List.getElem?_eq_getElem hka⟩
  have oka := hst.ok xa (List.mem_of_getElem? hxa)
  have na : xa.n ≤ 400 := by rw [← oka.ints.len, items_len]; exact oka.sz
  have sa : Hid (xa.n = sz xa.T) := by show xa.n = sz xa.T; rw [← oka.ints.len, items_len]
  have ra := hcr ka (.pointer xa.r) (by simp [hxa])
  have wa := hcw ka (.slice xa.a xa.n xa.c) (by simp [hxa])
  have i0a : (0 : Int) ≤ (ka : Int) := by omega
  have i1a : (ka : Int) < (es.length : Int) := by omega
  clear hxa
  clear hcr hcw
  have c2 := hv.c2
  have hd : decide (y < 0) = true := by simpa using hy
  conv => arg 2; whnf
  go_wp2_with fail
  go_quiet (fail)
  go_wp2_with fail
  go_region_held3 (fun W => W.cell? ⟨gr, ka, none⟩ = some (.pointer xa.r) ∧ W.cell? ⟨gs, 2, none⟩ = some (.int .i64 y)) (first | (go_keep; done))
    (first
      | (go_at_call 9; refine (at_low y hy).mono ?_; rintro e w1 ⟨rfl, rfl⟩))
  go_wp2_with fail
  refine (error_any ⟨Or.inr rfl⟩ (hst.err.below ?hbe)).mono ?_
  case hbe => exact (below_step (below_drewN rfl) (Below.refl _ _).drew)
  rintro e w2 ⟨rfl, hb⟩
  replace hst := hst.step (below_step (below_step (below_drewN rfl) (Below.refl _ _).drew) hb)
  go_wp2_with fail
  exact after_intro _ _ es hpos (by omega) hst rfl

set_option maxRecDepth 1000000 in
set_option maxHeartbeats 4000000 in
theorem swd_high {w0 wr : World} {a : Option Addr} {n cap m : Nat} {U : Nat → Value} {r v : Value} {es : List El} {gs : Nat} {what x y : Int} {al : Option Addr} {nl cl ka kb : Nat} {xs : List Int} (h0 : ErrType w0) (hst : Stand w0 wr r v es) (hlen : es.length ≤ 81) (hpos : 0 < es.length)
    (hv : StepVar w0 wr gs what x y al nl cl xs) (hka : ka < es.length) (hkb : kb < es.length) (d0 : (what == 0) = false) (d1 : (what == 1) = false) (d2 : (what == 2) = false) (d3 : (what == 3) = false) (hy0 : 0 ≤ y) (hsum : ∀ xa, es[ka]? = some xa → (xa.n : Int) ≤ y) :
    ((Tryd.f3.body.bind (blockOf 2)).getD .skip).wp Tryd.prog (fun e A w' => e = .normal ∧ After w0 a n cap m es.length A w') ⟨#[.slice a n cap, U 1, U 2, r, v, .int .i64 (m : Int), .pointer (some ⟨gs, 0, none⟩), .int .i64 (ka : Int), .int .i64 (kb : Int), .int .i64 0, U 10, U 11, U 12, U 13, U 14, U 15, U 16, U 17, U 18, U 19, U 20, U 21, U 22, U 23, U 24, U 25, U 26, U 27, U 28, U 29, U 30, U 31, U 32, U 33, U 34, U 35, U 36, U 37, U 38, U 39, U 40, U 41, U 42, U 43, U 44, U 45, U 46, U 47, U 48, U 49, U 50, U 51, U 52, U 53, U 54, U 55, U 56, U 57, .int .i64 what, U 59, U 60, U 61, U 62, U 63, U 64, U 65, U 66, U 67, U 68, U 69, U 70, U 71, U 72, U 73, U 74, U 75, U 76, U 77, U 78, U 79, U 80, U 81, U 82, U 83, U 84, U 85, U 86, U 87, U 88, U 89, U 90, U 91, U 92, U 93, U 94, U 95, U 96, U 97, U 98, U 99, U 100, U 101, U 102, U 103, U 104, U 105, U 106, U 107, U 108, U 109, U 110, U 111, U 112, U 113, U 114, U 115, U 116, U 117, U 118, U 119, U 120, U 121, U 122, U 123, U 124, U 125, U 126, U 127, U 128, U 129, U 130, U 131, U 132, U 133, U 134, U 135, U 136, U 137, U 138, U 139, U 140, U 141, U 142, U 143, U 144, U 145, U 146, U 147, U 148, U 149, U 150, U 151, U 152, U 153, U 154, U 155, U 156, U 157, U 158, U 159, U 160, U 161, U 162, U 163, U 164, U 165, U 166, U 167, U 168, U 169, U 170, U 171, U 172, U 173, U 174, U 175, U 176, U 177, U 178, U 179, U 180, U 181, U 182, U 183, U 184, U 185, U 186, U 187, U 188, U 189, U 190, U 191, U 192, U 193, U 194, U 195, U 196, U 197, U 198, U 199, U 200, U 201, U 202, U 203, U 204, U 205, U 206, U 207, U 208, U 209, U 210, U 211, U 212, U 213, U 214, U 215, U 216, U 217, U 218, U 219, U 220, U 221, U 222, U 223, U 224, U 225, U 226, U 227, U 228, U 229, U 230, U 231, U 232, U 233, U 234, U 235, U 236, U 237, U 238, U 239, U 240, U 241, U 242, U 243, U 244, U 245, U 246, U 247, U 248, U 249, U 250, U 251, U 252, U 253, U 254, U 255, U 256, U 257, U 258, U 259, U 260, U 261, U 262, U 263, U 264, U 265, U 266, U 267, U 268, U 269, U 270, U 271, U 272, U 273, U 274, U 275, U 276, U 277, U 278, U 279, U 280, U 281, U 282, U 283, U 284, U 285, U 286, U 287, U 288, U 289, U 290, U 291, U 292, U 293, U 294, U 295, U 296, U 297, U 298, U 299, U 300, U 301, U 302, U 303, U 304, U 305, U 306, U 307, U 308, U 309, U 310], []⟩ wr := by
  obtain ⟨gr, cr, rfl, hr1, hr2, hcr⟩ := own_cell hst.rows hpos
  obtain ⟨gw, cw, rfl, hw1, hw2, hcw⟩ := own_cell hst.want hpos
  obtain ⟨xa, hxa⟩ : ∃ z, es[ka]? = some z := ⟨_, List.getElem?_eq_getElem hka⟩
  have oka := hst.ok xa (List.mem_of_getElem? hxa)
  have na : xa.n ≤ 400 := by rw [← oka.ints.len, items_len]; exact oka.sz
  have sa : Hid (xa.n = sz xa.T) := by show xa.n = sz xa.T; rw [← oka.ints.len, items_len]
  have ra := hcr ka (.pointer xa.r) (by simp [hxa])
  have wa := hcw ka (.slice xa.a xa.n xa.c) (by simp [hxa])
  have i0a : (0 : Int) ≤ (ka : Int) := by omega
  have i1a : (ka : Int) < (es.length : Int) := by omega
  have hs := hsum xa hxa
  clear hxa hsum
  clear hcr hcw
  have c2 := hv.c2
  have hd : decide (y < 0) = false := by simpa using hy0
  conv => arg 2; whnf
  go_wp2_with fail
  go_quiet (fail)
  go_wp2_with fail
  go_region_held3 (fun W => W.cell? ⟨gr, ka, none⟩ = some (.pointer xa.r) ∧ W.cell? ⟨gs, 2, none⟩ = some (.int .i64 y)) (first | (go_keep; done))
    (first
      | (go_at_call 9; refine (at_high (oka.row.below (below_step (below_drewN rfl) (Below.refl _ _).drew)) y hy0 ?_).mono ?_; (have := sa.out; omega); rintro e w1 ⟨rfl, rfl⟩))
  go_wp2_with fail
  refine (error_any ⟨Or.inr rfl⟩ (hst.err.below ?hbe)).mono ?_
  case hbe => exact (below_step (below_drewN rfl) (Below.refl _ _).drew)
  rintro e w2 ⟨rfl, hb⟩
  replace hst := hst.step (below_step (below_step (below_drewN rfl) (Below.refl _ _).drew) hb)
  go_wp2_with fail
  exact after_intro _ _ es hpos (by omega) hst rfl

set_option maxRecDepth 1000000 in
set_option maxHeartbeats 4000000 in
theorem swd_ok {w0 wr : World} {a : Option Addr} {n cap m : Nat} {U : Nat → Value} {r v : Value} {es : List El} {gs : Nat} {what x y : Int} {al : Option Addr} {nl cl ka kb : Nat} {xs : List Int} (h0 : ErrType w0) (hst : Stand w0 wr r v es) (hlen : es.length ≤ 81) (hpos : 0 < es.length)
    (hv : StepVar w0 wr gs what x y al nl cl xs) (hka : ka < es.length) (hkb : kb < es.length) (d0 : (what == 0) = false) (d1 : (what == 1) = false) (d2 : (what == 2) = false) (d3 : (what == 3) = false) (k : Nat) (hyk : y = (k : Int)) (hsum : ∀ xa, es[ka]? = some xa → k < xa.n) :
    ((Tryd.f3.body.bind (blockOf 2)).getD .skip).wp Tryd.prog (fun e A w' => e = .normal ∧ After w0 a n cap m es.length A w') ⟨#[.slice a n cap, U 1, U 2, r, v, .int .i64 (m : Int), .pointer (some ⟨gs, 0, none⟩), .int .i64 (ka : Int), .int .i64 (kb : Int), .int .i64 0, U 10, U 11, U 12, U 13, U 14, U 15, U 16, U 17, U 18, U 19, U 20, U 21, U 22, U 23, U 24, U 25, U 26, U 27, U 28, U 29, U 30, U 31, U 32, U 33, U 34, U 35, U 36, U 37, U 38, U 39, U 40, U 41, U 42, U 43, U 44, U 45, U 46, U 47, U 48, U 49, U 50, U 51, U 52, U 53, U 54, U 55, U 56, U 57, .int .i64 what, U 59, U 60, U 61, U 62, U 63, U 64, U 65, U 66, U 67, U 68, U 69, U 70, U 71, U 72, U 73, U 74, U 75, U 76, U 77, U 78, U 79, U 80, U 81, U 82, U 83, U 84, U 85, U 86, U 87, U 88, U 89, U 90, U 91, U 92, U 93, U 94, U 95, U 96, U 97, U 98, U 99, U 100, U 101, U 102, U 103, U 104, U 105, U 106, U 107, U 108, U 109, U 110, U 111, U 112, U 113, U 114, U 115, U 116, U 117, U 118, U 119, U 120, U 121, U 122, U 123, U 124, U 125, U 126, U 127, U 128, U 129, U 130, U 131, U 132, U 133, U 134, U 135, U 136, U 137, U 138, U 139, U 140, U 141, U 142, U 143, U 144, U 145, U 146, U 147, U 148, U 149, U 150, U 151, U 152, U 153, U 154, U 155, U 156, U 157, U 158, U 159, U 160, U 161, U 162, U 163, U 164, U 165, U 166, U 167, U 168, U 169, U 170, U 171, U 172, U 173, U 174, U 175, U 176, U 177, U 178, U 179, U 180, U 181, U 182, U 183, U 184, U 185, U 186, U 187, U 188, U 189, U 190, U 191, U 192, U 193, U 194, U 195, U 196, U 197, U 198, U 199, U 200, U 201, U 202, U 203, U 204, U 205, U 206, U 207, U 208, U 209, U 210, U 211, U 212, U 213, U 214, U 215, U 216, U 217, U 218, U 219, U 220, U 221, U 222, U 223, U 224, U 225, U 226, U 227, U 228, U 229, U 230, U 231, U 232, U 233, U 234, U 235, U 236, U 237, U 238, U 239, U 240, U 241, U 242, U 243, U 244, U 245, U 246, U 247, U 248, U 249, U 250, U 251, U 252, U 253, U 254, U 255, U 256, U 257, U 258, U 259, U 260, U 261, U 262, U 263, U 264, U 265, U 266, U 267, U 268, U 269, U 270, U 271, U 272, U 273, U 274, U 275, U 276, U 277, U 278, U 279, U 280, U 281, U 282, U 283, U 284, U 285, U 286, U 287, U 288, U 289, U 290, U 291, U 292, U 293, U 294, U 295, U 296, U 297, U 298, U 299, U 300, U 301, U 302, U 303, U 304, U 305, U 306, U 307, U 308, U 309, U 310], []⟩ wr := by
  subst hyk
  obtain ⟨gr, cr, rfl, hr1, hr2, hcr⟩ := own_cell hst.rows hpos
  obtain ⟨gw, cw, rfl, hw1, hw2, hcw⟩ := own_cell hst.want hpos
  obtain ⟨xa, hxa⟩ : ∃ z, es[ka]? = some z := ⟨_, List.getElem?_eq_getElem hka⟩
  have oka := hst.ok xa (List.mem_of_getElem? hxa)
  have na : xa.n ≤ 400 := by rw [← oka.ints.len, items_len]; exact oka.sz
  have sa : Hid (xa.n = sz xa.T) := by show xa.n = sz xa.T; rw [← oka.ints.len, items_len]
  have ra := hcr ka (.pointer xa.r) (by simp [hxa])
  have wa := hcw ka (.slice xa.a xa.n xa.c) (by simp [hxa])
  have i0a : (0 : Int) ≤ (ka : Int) := by omega
  have i1a : (ka : Int) < (es.length : Int) := by omega
  have hs := hsum xa hxa
  clear hxa hsum
  clear hcr hcw
  have c2 := hv.c2
  obtain ⟨bl, ol, el, lc⟩ := oka.ints.cell k hs
  obtain ⟨X, hX⟩ : ∃ X, (items xa.T).getD k 0 = X := ⟨_, rfl⟩
  rw [hX] at lc
  rw [el] at wa
  have HX : Hid ((items xa.T).getD k 0 = X) := hX
  clear hX el
  have hd : decide ((k : Int) < 0) = false := by simp
  have hd2 : decide ((xa.n : Int) ≤ (k : Int)) = false := by simpa using hs
  have i3 : (0 : Int) ≤ (k : Int) := by omega
  have i4 : (k : Int) < (xa.n : Int) := by omega
  conv => arg 2; whnf
  go_wp2_with fail
  go_quiet (fail)
  go_wp2_with fail
  go_quiet (fail)
  go_wp2_with fail
  go_region_held3 (fun W => W.cell? ⟨gr, ka, none⟩ = some (.pointer xa.r) ∧ W.cell? ⟨gs, 2, none⟩ = some (.int .i64 (k : Int))) (first | (go_keep; done))
    (first
      | (go_at_call 9; refine (at_is (oka.row.below (below_drewN rfl)) k ?_ oka.sz X HX.out).mono ?_; (have := sa.out; omega); rintro e w1 ⟨rfl, rfl⟩))
  go_wp2_with fail
  refine (error_any ⟨Or.inl ⟨rfl, rfl⟩⟩ (hst.err.below ?hbe)).mono ?_
  case hbe => exact (below_drewN rfl)
  rintro e w2 ⟨rfl, hb⟩
  replace hst := hst.step (below_step (below_drewN rfl) hb)
  go_wp2_with fail
  exact after_intro _ _ es hpos (by omega) hst rfl

end Go.Proofs.YtpmkllmeilhakaaDoor
