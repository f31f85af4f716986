/-
  SeqPlays, a step that joins two rows.
-/
import Derived.Test.YtpmkllmeilhakaaDoorPlays4
import Derived.Deep.DeepCutAuto
import Derived.Deep.CutBlock
namespace Go.Proofs.YtpmkllmeilhakaaDoor
open Go.RowKit Go.Deep
set_option linter.unusedVariables false

set_option maxRecDepth 1000000 in
set_option maxHeartbeats 4000000 in
theorem sw1_full {w0 wr : World} {a : Option Addr} {n cap m : Nat} {U : Nat → Value} {r v : Value} {es : List El} {gs : Nat} {what x y : Int} {al : Option Addr} {nl cl ka kb : Nat} {xs : List Int} (h0 : ErrType w0) (hst : Stand w0 wr r v es) (hlen : es.length ≤ 81) (hpos : 0 < es.length)
    (hv : StepVar w0 wr gs what x y al nl cl xs) (hka : ka < es.length) (hkb : kb < es.length) (hw : what = 1) (hsum : ∀ xa xb, es[ka]? = some xa → es[kb]? = some xb → 400 < xa.n + xb.n) :
    ((Tryd.f3.body.bind (blockOf 2)).getD .skip).wp Tryd.prog (fun e A w' => e = .normal ∧ After w0 a n cap m es.length A w') ⟨#[.slice a n cap, U 1, U 2, r, v, .int .i64 (m : Int), .pointer (some ⟨gs, 0, none⟩), .int .i64 (ka : Int), .int .i64 (kb : Int), .int .i64 0, U 10, U 11, U 12, U 13, U 14, U 15, U 16, U 17, U 18, U 19, U 20, U 21, U 22, U 23, U 24, U 25, U 26, U 27, U 28, U 29, U 30, U 31, U 32, U 33, U 34, U 35, U 36, U 37, U 38, U 39, U 40, U 41, U 42, U 43, U 44, U 45, U 46, U 47, U 48, U 49, U 50, U 51, U 52, U 53, U 54, U 55, U 56, U 57, .int .i64 what, U 59, U 60, U 61, U 62, U 63, U 64, U 65, U 66, U 67, U 68, U 69, U 70, U 71, U 72, U 73, U 74, U 75, U 76, U 77, U 78, U 79, U 80, U 81, U 82, U 83, U 84, U 85, U 86, U 87, U 88, U 89, U 90, U 91, U 92, U 93, U 94, U 95, U 96, U 97, U 98, U 99, U 100, U 101, U 102, U 103, U 104, U 105, U 106, U 107, U 108, U 109, U 110, U 111, U 112, U 113, U 114, U 115, U 116, U 117, U 118, U 119, U 120, U 121, U 122, U 123, U 124, U 125, U 126, U 127, U 128, U 129, U 130, U 131, U 132, U 133, U 134, U 135, U 136, U 137, U 138, U 139, U 140, U 141, U 142, U 143, U 144, U 145, U 146, U 147, U 148, U 149, U 150, U 151, U 152, U 153, U 154, U 155, U 156, U 157, U 158, U 159, U 160, U 161, U 162, U 163, U 164, U 165, U 166, U 167, U 168, U 169, U 170, U 171, U 172, U 173, U 174, U 175, U 176, U 177, U 178, U 179, U 180, U 181, U 182, U 183, U 184, U 185, U 186, U 187, U 188, U 189, U 190, U 191, U 192, U 193, U 194, U 195, U 196, U 197, U 198, U 199, U 200, U 201, U 202, U 203, U 204, U 205, U 206, U 207, U 208, U 209, U 210, U 211, U 212, U 213, U 214, U 215, U 216, U 217, U 218, U 219, U 220, U 221, U 222, U 223, U 224, U 225, U 226, U 227, U 228, U 229, U 230, U 231, U 232, U 233, U 234, U 235, U 236, U 237, U 238, U 239, U 240, U 241, U 242, U 243, U 244, U 245, U 246, U 247, U 248, U 249, U 250, U 251, U 252, U 253, U 254, U 255, U 256, U 257, U 258, U 259, U 260, U 261, U 262, U 263, U 264, U 265, U 266, U 267, U 268, U 269, U 270, U 271, U 272, U 273, U 274, U 275, U 276, U 277, U 278, U 279, U 280, U 281, U 282, U 283, U 284, U 285, U 286, U 287, U 288, U 289, U 290, U 291, U 292, U 293, U 294, U 295, U 296, U 297, U 298, U 299, U 300, U 301, U 302, U 303, U 304, U 305, U 306, U 307, U 308, U 309, U 310], []⟩ wr := by
  subst hw
  obtain ⟨gr, cr, rfl, hr1, hr2, hcr⟩ := own_cell hst.rows hpos
  obtain ⟨gw, cw, rfl, hw1, hw2, hcw⟩ := own_cell hst.want hpos
  obtain ⟨xa, hxa⟩ : ∃ z, es[ka]? = some z := ⟨_, List.getElem?_eq_getElem hka⟩
  have oka := hst.ok xa (List.mem_of_getElem? hxa)
  have na : xa.n ≤ 400 := by rw [← oka.ints.len, items_len]; exact oka.sz
  have sa : Hid (xa.n = sz xa.T) := by show xa.n = sz xa.T; rw [← oka.ints.len, items_len]
  have ra := hcr ka (.pointer xa.r) (by simp [hxa])
  have wa := hcw ka (.slice xa.a xa.n xa.c) (by simp [hxa])
  have i0a : (0 : Int) ≤ (ka : Int) := by omega
  have i1a : (ka : Int) < (es.length : Int) := by omega
  obtain ⟨xb, hxb⟩ : ∃ z, es[kb]? = some z := ⟨_, List.getElem?_eq_getElem hkb⟩
  have okb := hst.ok xb (List.mem_of_getElem? hxb)
  have nb : xb.n ≤ 400 := by rw [← okb.ints.len, items_len]; exact okb.sz
  have sb : Hid (xb.n = sz xb.T) := by show xb.n = sz xb.T; rw [← okb.ints.len, items_len]
  have rb := hcr kb (.pointer xb.r) (by simp [hxb])
  have wb := hcw kb (.slice xb.a xb.n xb.c) (by simp [hxb])
  have i0b : (0 : Int) ≤ (kb : Int) := by omega
  have i1b : (kb : Int) < (es.length : Int) := by omega
  have hs := hsum xa xb hxa hxb
  clear hxa hxb hsum
  clear hcr hcw
  have i2 : IntKind.i64.wrap ((xa.n : Int) + (xb.n : Int)) = (xa.n : Int) + (xb.n : Int) := by rw [IntKind.wrap_i64]; omega
  conv => arg 2; whnf
  go_wp2_with fail
  go_region_held3 (fun W => W.cell? ⟨gw, ka, none⟩ = some (.slice xa.a xa.n xa.c) ∧ W.cell? ⟨gw, kb, none⟩ = some (.slice xb.a xb.n xb.c)) (first | (go_keep; done)) (fail)
  go_wp2_with fail
  go_region_held3 (fun W => W.cell? ⟨gr, ka, none⟩ = some (.pointer xa.r) ∧ W.cell? ⟨gr, kb, none⟩ = some (.pointer xb.r)) (first | (go_keep; done))
    (first
      | (go_at_call 7; refine (join_full oka.row.drew.drew okb.row.drew.drew ?_ oka.sz okb.sz).mono ?_; (have := sa.out; have := sb.out; omega); rintro e w1 ⟨rfl, rfl⟩))
  go_wp2_with fail
  refine (error_any ⟨Or.inr rfl⟩ (hst.err.below (below_drew (below_drew (Below.refl _ _))))).mono ?_
  rintro e w2 ⟨rfl, hb⟩
  replace hst := hst.step (below_drew (below_drew hb))
  go_wp2_with fail
  exact after_intro _ _ es hpos (by omega) hst rfl

set_option maxRecDepth 1000000 in
set_option maxHeartbeats 4000000 in
theorem sw1_ok {w0 wr : World} {a : Option Addr} {n cap m : Nat} {U : Nat → Value} {r v : Value} {es : List El} {gs : Nat} {what x y : Int} {al : Option Addr} {nl cl ka kb : Nat} {xs : List Int} (h0 : ErrType w0) (hst : Stand w0 wr r v es) (hlen : es.length ≤ 81) (hpos : 0 < es.length)
    (hv : StepVar w0 wr gs what x y al nl cl xs) (hka : ka < es.length) (hkb : kb < es.length) (hw : what = 1) (hsum : ∀ xa xb, es[ka]? = some xa → es[kb]? = some xb → xa.n + xb.n ≤ 400) :
    ((Tryd.f3.body.bind (blockOf 2)).getD .skip).wp Tryd.prog (fun e A w' => e = .normal ∧ After w0 a n cap m es.length A w') ⟨#[.slice a n cap, U 1, U 2, r, v, .int .i64 (m : Int), .pointer (some ⟨gs, 0, none⟩), .int .i64 (ka : Int), .int .i64 (kb : Int), .int .i64 0, U 10, U 11, U 12, U 13, U 14, U 15, U 16, U 17, U 18, U 19, U 20, U 21, U 22, U 23, U 24, U 25, U 26, U 27, U 28, U 29, U 30, U 31, U 32, U 33, U 34, U 35, U 36, U 37, U 38, U 39, U 40, U 41, U 42, U 43, U 44, U 45, U 46, U 47, U 48, U 49, U 50, U 51, U 52, U 53, U 54, U 55, U 56, U 57, .int .i64 what, U 59, U 60, U 61, U 62, U 63, U 64, U 65, U 66, U 67, U 68, U 69, U 70, U 71, U 72, U 73, U 74, U 75, U 76, U 77, U 78, U 79, U 80, U 81, U 82, U 83, U 84, U 85, U 86, U 87, U 88, U 89, U 90, U 91, U 92, U 93, U 94, U 95, U 96, U 97, U 98, U 99, U 100, U 101, U 102, U 103, U 104, U 105, U 106, U 107, U 108, U 109, U 110, U 111, U 112, U 113, U 114, U 115, U 116, U 117, U 118, U 119, U 120, U 121, U 122, U 123, U 124, U 125, U 126, U 127, U 128, U 129, U 130, U 131, U 132, U 133, U 134, U 135, U 136, U 137, U 138, U 139, U 140, U 141, U 142, U 143, U 144, U 145, U 146, U 147, U 148, U 149, U 150, U 151, U 152, U 153, U 154, U 155, U 156, U 157, U 158, U 159, U 160, U 161, U 162, U 163, U 164, U 165, U 166, U 167, U 168, U 169, U 170, U 171, U 172, U 173, U 174, U 175, U 176, U 177, U 178, U 179, U 180, U 181, U 182, U 183, U 184, U 185, U 186, U 187, U 188, U 189, U 190, U 191, U 192, U 193, U 194, U 195, U 196, U 197, U 198, U 199, U 200, U 201, U 202, U 203, U 204, U 205, U 206, U 207, U 208, U 209, U 210, U 211, U 212, U 213, U 214, U 215, U 216, U 217, U 218, U 219, U 220, U 221, U 222, U 223, U 224, U 225, U 226, U 227, U 228, U 229, U 230, U 231, U 232, U 233, U 234, U 235, U 236, U 237, U 238, U 239, U 240, U 241, U 242, U 243, U 244, U 245, U 246, U 247, U 248, U 249, U 250, U 251, U 252, U 253, U 254, U 255, U 256, U 257, U 258, U 259, U 260, U 261, U 262, U 263, U 264, U 265, U 266, U 267, U 268, U 269, U 270, U 271, U 272, U 273, U 274, U 275, U 276, U 277, U 278, U 279, U 280, U 281, U 282, U 283, U 284, U 285, U 286, U 287, U 288, U 289, U 290, U 291, U 292, U 293, U 294, U 295, U 296, U 297, U 298, U 299, U 300, U 301, U 302, U 303, U 304, U 305, U 306, U 307, U 308, U 309, U 310], []⟩ wr := by
  subst hw
  obtain ⟨i0, hi, hz0, hz1, hz2⟩ := info_parts Tryd.infoSeqPtr
  obtain ⟨j0, hj, hy0, hy1, hy2⟩ := info_parts Tryd.infoInts
  obtain ⟨gr, cr, rfl, hr1, hr2, hcr⟩ := own_cell hst.rows hpos
  obtain ⟨gw, cw, rfl, hw1, hw2, hcw⟩ := own_cell hst.want hpos
  obtain ⟨xa, hxa⟩ : ∃ z, es[ka]? = some z := ⟨_, List.getElem?_eq_getElem hka⟩
  have oka := hst.ok xa (List.mem_of_getElem? hxa)
  have na : xa.n ≤ 400 := by rw [← oka.ints.len, items_len]; exact oka.sz
  have sa : Hid (xa.n = sz xa.T) := by show xa.n = sz xa.T; rw [← oka.ints.len, items_len]
  have ra := hcr ka (.pointer xa.r) (by simp [hxa])
  have wa := hcw ka (.slice xa.a xa.n xa.c) (by simp [hxa])
  have i0a : (0 : Int) ≤ (ka : Int) := by omega
  have i1a : (ka : Int) < (es.length : Int) := by omega
  obtain ⟨xb, hxb⟩ : ∃ z, es[kb]? = some z := ⟨_, List.getElem?_eq_getElem hkb⟩
  have okb := hst.ok xb (List.mem_of_getElem? hxb)
  have nb : xb.n ≤ 400 := by rw [← okb.ints.len, items_len]; exact okb.sz
  have sb : Hid (xb.n = sz xb.T) := by show xb.n = sz xb.T; rw [← okb.ints.len, items_len]
  have rb := hcr kb (.pointer xb.r) (by simp [hxb])
  have wb := hcw kb (.slice xb.a xb.n xb.c) (by simp [hxb])
  have i0b : (0 : Int) ≤ (kb : Int) := by omega
  have i1b : (kb : Int) < (es.length : Int) := by omega
  have hs := hsum xa xb hxa hxb
  clear hxa hxb hsum
  clear hcr hcw
  have i2 : IntKind.i64.wrap ((xa.n : Int) + (xb.n : Int)) = (xa.n : Int) + (xb.n : Int) := by rw [IntKind.wrap_i64]; omega
  conv => arg 2; whnf
  go_wp2_with fail
  go_region_held3 (fun W => W.cell? ⟨gw, ka, none⟩ = some (.slice xa.a xa.n xa.c) ∧ W.cell? ⟨gw, kb, none⟩ = some (.slice xb.a xb.n xb.c)) (first | (go_keep; done)) (fail)
  go_wp2_with fail
  go_region_held3 (fun W => W.cell? ⟨gr, ka, none⟩ = some (.pointer xa.r) ∧ W.cell? ⟨gr, kb, none⟩ = some (.pointer xb.r)) (first | (go_keep; done) | exact ⟨cell_keep hb1 ra, cell_keep hb1 rb⟩)
    (first
      | (go_at_call 7; refine (join_any oka.row.drew.drew okb.row.drew.drew oka.bal okb.bal ?_).mono ?_; (have := sa.out; have := sb.out; omega); rintro e w1 ⟨v1, T1, rfl, hb1, hr1', hbal1, hi1⟩))
  go_wp2_with fail
  have HI1 : Hid (items T1 = items xa.T ++ items xb.T) := hi1
  have hB1 := below_drew (below_drew hb1)
  clear hi1 hb1
  refine (error_any ⟨Or.inl ⟨rfl, rfl⟩⟩ (hst.err.below hB1)).mono ?_
  rintro e w2 ⟨rfl, hb2⟩
  have hB2 := below_step hB1 hb2
  replace hst := hst.step hB2
  replace oka := oka.kept (Kept.of_below hB2)
  replace okb := okb.kept (Kept.of_below hB2)
  replace hr1' := hr1'.below hb2
  replace wa := cell_keep hB2 wa
  replace wb := cell_keep hB2 wb
  clear hB1 hB2 hb2 ra rb
  go_wp2_with (first
    | (at_builtin; refine wpList_append_ints _ rfl (.tmp 178) (.tmp 182) rfl (base := w0.heap.size) (n := 0) (xs := []) rfl (World.ownsRow_nil _ _ _ _) rfl oka.ints (by omega) hst.below.size ?_))
  intro vA w3 hownA hgrowA hatA
  try simp only [Nat.zero_add, List.nil_append] at hownA
  have hb3 : Below w2.heap.size w2 w3 := (Below.refl _ _).grown hgrowA (Nat.le_refl _) (fun k e => by cases e)
  obtain ⟨aA, cA, rfl⟩ := own_form hownA
  have wb3 := cell_keep hb3 wb
  have hbase : w0.heap.size ≤ w3.heap.size := Nat.le_trans hst.below.size hb3.size
  clear hgrowA wa wb
  go_wp2_with (first
    | (at_builtin; refine wpList_append_ints _ rfl (.tmp 184) (.tmp 188) rfl (base := w0.heap.size) rfl hownA rfl (okb.ints.below hb3) (by omega) hbase ?_))
  intro vB w4 hownB hgrowB hatB
  have hb4 : Below w2.heap.size w2 w4 := hb3.grown hgrowB hb3.size (fun k e => by
    rcases hatA with hatA | hatA
    · rw [hatA] at e; cases e
    · rw [hatA] at e; cases e; exact Nat.le_refl _)
  obtain ⟨aB, cB, rfl⟩ := own_form hownB
  rw [← List.map_append] at hownB
  obtain ⟨li, lo, lc⟩ := ints_of_own hownB
  replace hst := hst.step hb4
  replace hr1' := hr1'.below hb4
  clear hownA hownB hgrowB hatA hatB hb3 hb4 wb3 hbase
  go_wp2_with (first
    | (at_builtin; refine wpList_append_lies _ rfl (.tmp 190) (.tmp 192) 23 rfl w0.heap.size 30 i0 (.pointer none) 1 8 Tryd.underlying23 hi hz0 hz1 hz2 rfl (by decide) (.slice (some ⟨gr, 0, none⟩) es.length cr) es.length (es.map fun x => .pointer x.r) rfl (ownsRow_below hst.rows ((Below.refl _ _).alloc (Nat.le_refl _) _)) ⟨w4.heap.size, 0, none⟩ 1 1 [.pointer v1] rfl rfl ?c1 ?c2 (by decide) ?c3 ?c4 ?c5 _ rfl ?_))
  case c1 => exact cell_one_new _ _ _
  case c2 => intro u hu; simp at hu; subst hu; rfl
  case c3 => unfold maxLen; omega
  case c4 => omega
  case c5 => have := hst.below.size; simp; omega
  intro g1 cap1 w5 hown1 hgrow1 hat1 hlt1
  have hhk := (hst.step ((Below.refl _ _).alloc (Nat.le_refl _) _)).rows_grown h0 (ms := [v1]) hown1 hgrow1
  have hkB : Kept w0.heap.size w4 w5 := Kept.trans (Kept.of_below ((Below.refl _ _).alloc (Nat.le_refl _) _)) hhk.2
  have hh := hhk.1
  clear hhk hown1 hgrow1 hat1 hlt1 hst
  replace hr1' := hr1'.kept hkB
  have lk := ints_kept li lo hkB
  go_wp2_with (first
    | (at_builtin; refine wpList_append_lies _ rfl (.tmp 194) (.tmp 196) 24 rfl w0.heap.size 25 j0 (.slice none 0 0) 1 24 Tryd.underlying24 hj hy0 hy1 hy2 rfl (by decide) (.slice (some ⟨gw, 0, none⟩) es.length cw) es.length (es.map fun x => .slice x.a x.n x.c) rfl (ownsRow_below hh.want ((Below.refl _ _).alloc (Nat.le_refl _) _)) ⟨w5.heap.size, 0, none⟩ 1 1 [.slice aB (xa.n + xb.n) cB] rfl rfl ?c1 ?c2 (by decide) ?c3 ?c4 ?c5 _ rfl ?_))
  case c1 => exact cell_one_new _ _ _
  case c2 => intro u hu; simp at hu; subst hu; rfl
  case c3 => unfold maxLen; omega
  case c4 => omega
  case c5 => have := hh.below.size; simp; omega
  intro g2 cap2 w6 hown2 hgrow2 hat2 hlt2
  have hs2 := (Half.want_grown (ns := [⟨v1, T1, aB, xa.n + xb.n, cB⟩]) (hh.step ((Below.refl _ _).alloc (Nat.le_refl _) _)) h0 hown2 hgrow2 ?ok).1
  case ok =>
    intro z hz
    simp only [List.mem_singleton] at hz
    subst hz
    have lk2 := ints_kept lk.1 lk.2 (Kept.of_below (w' := w5.alloc (.cells #[.slice aB (xa.n + xb.n) cB] 25)) ((Below.refl _ _).alloc (Nat.le_refl _) _))
    exact ⟨hr1'.below ((Below.refl _ _).alloc (Nat.le_refl _) _), hbal1, by rw [sz_of_items HI1.out, List.length_append, oka.ints.len, okb.ints.len]; exact hs, by rw [HI1.out]; exact lk2.1, lc, lk2.2⟩
  clear hown2 hgrow2 hat2 hlt2
  go_wp2_with fail
  exact after_intro _ _ _ (by simp) (by simp) hs2 rfl

set_option maxRecDepth 1000000 in
set_option maxHeartbeats 4000000 in
theorem sw2_full {w0 wr : World} {a : Option Addr} {n cap m : Nat} {U : Nat → Value} {r v : Value} {es : List El} {gs : Nat} {what x y : Int} {al : Option Addr} {nl cl ka kb : Nat} {xs : List Int} (h0 : ErrType w0) (hst : Stand w0 wr r v es) (hlen : es.length ≤ 81) (hpos : 0 < es.length)
    (hv : StepVar w0 wr gs what x y al nl cl xs) (hka : ka < es.length) (hkb : kb < es.length) (hw : what = 2) (hsum : ∀ xa xb, es[ka]? = some xa → es[kb]? = some xb → 400 < xa.n + xb.n) :
    ((Tryd.f3.body.bind (blockOf 2)).getD .skip).wp Tryd.prog (fun e A w' => e = .normal ∧ After w0 a n cap m es.length A w') ⟨#[.slice a n cap, U 1, U 2, r, v, .int .i64 (m : Int), .pointer (some ⟨gs, 0, none⟩), .int .i64 (ka : Int), .int .i64 (kb : Int), .int .i64 0, U 10, U 11, U 12, U 13, U 14, U 15, U 16, U 17, U 18, U 19, U 20, U 21, U 22, U 23, U 24, U 25, U 26, U 27, U 28, U 29, U 30, U 31, U 32, U 33, U 34, U 35, U 36, U 37, U 38, U 39, U 40, U 41, U 42, U 43, U 44, U 45, U 46, U 47, U 48, U 49, U 50, U 51, U 52, U 53, U 54, U 55, U 56, U 57, .int .i64 what, U 59, U 60, U 61, U 62, U 63, U 64, U 65, U 66, U 67, U 68, U 69, U 70, U 71, U 72, U 73, U 74, U 75, U 76, U 77, U 78, U 79, U 80, U 81, U 82, U 83, U 84, U 85, U 86, U 87, U 88, U 89, U 90, U 91, U 92, U 93, U 94, U 95, U 96, U 97, U 98, U 99, U 100, U 101, U 102, U 103, U 104, U 105, U 106, U 107, U 108, U 109, U 110, U 111, U 112, U 113, U 114, U 115, U 116, U 117, U 118, U 119, U 120, U 121, U 122, U 123, U 124, U 125, U 126, U 127, U 128, U 129, U 130, U 131, U 132, U 133, U 134, U 135, U 136, U 137, U 138, U 139, U 140, U 141, U 142, U 143, U 144, U 145, U 146, U 147, U 148, U 149, U 150, U 151, U 152, U 153, U 154, U 155, U 156, U 157, U 158, U 159, U 160, U 161, U 162, U 163, U 164, U 165, U 166, U 167, U 168, U 169, U 170, U 171, U 172, U 173, U 174, U 175, U 176, U 177, U 178, U 179, U 180, U 181, U 182, U 183, U 184, U 185, U 186, U 187, U 188, U 189, U 190, U 191, U 192, U 193, U 194, U 195, U 196, U 197, U 198, U 199, U 200, U 201, U 202, U 203, U 204, U 205, U 206, U 207, U 208, U 209, U 210, U 211, U 212, U 213, U 214, U 215, U 216, U 217, U 218, U 219, U 220, U 221, U 222, U 223, U 224, U 225, U 226, U 227, U 228, U 229, U 230, U 231, U 232, U 233, U 234, U 235, U 236, U 237, U 238, U 239, U 240, U 241, U 242, U 243, U 244, U 245, U 246, U 247, U 248, U 249, U 250, U 251, U 252, U 253, U 254, U 255, U 256, U 257, U 258, U 259, U 260, U 261, U 262, U 263, U 264, U 265, U 266, U 267, U 268, U 269, U 270, U 271, U 272, U 273, U 274, U 275, U 276, U 277, U 278, U 279, U 280, U 281, U 282, U 283, U 284, U 285, U 286, U 287, U 288, U 289, U 290, U 291, U 292, U 293, U 294, U 295, U 296, U 297, U 298, U 299, U 300, U 301, U 302, U 303, U 304, U 305, U 306, U 307, U 308, U 309, U 310], []⟩ wr := by
  subst hw
  obtain ⟨gr, cr, rfl, hr1, hr2, hcr⟩ := own_cell hst.rows hpos
  obtain ⟨gw, cw, rfl, hw1, hw2, hcw⟩ := own_cell hst.want hpos
  obtain ⟨xa, hxa⟩ : ∃ z, es[ka]? = some z := ⟨_, List.getElem?_eq_getElem hka⟩
  have oka := hst.ok xa (List.mem_of_getElem? hxa)
  have na : xa.n ≤ 400 := by rw [← oka.ints.len, items_len]; exact oka.sz
  have sa : Hid (xa.n = sz xa.T) := by show xa.n = sz xa.T; rw [← oka.ints.len, items_len]
  have ra := hcr ka (.pointer xa.r) (by simp [hxa])
  have wa := hcw ka (.slice xa.a xa.n xa.c) (by simp [hxa])
  have i0a : (0 : Int) ≤ (ka : Int) := by omega
  have i1a : (ka : Int) < (es.length : Int) := by omega
  obtain ⟨xb, hxb⟩ : ∃ z, es[kb]? = some z := ⟨_, List.getElem?_eq_getElem hkb⟩
  have okb := hst.ok xb (List.mem_of_getElem? hxb)
  have nb : xb.n ≤ 400 := by rw [← okb.ints.len, items_len]; exact okb.sz
  have sb : Hid (xb.n = sz xb.T) := by show xb.n = sz xb.T; rw [← okb.ints.len, items_len]
  have rb := hcr kb (.pointer xb.r) (by simp [hxb])
  have wb := hcw kb (.slice xb.a xb.n xb.c) (by simp [hxb])
  have i0b : (0 : Int) ≤ (kb : Int) := by omega
  have i1b : (kb : Int) < (es.length : Int) := by omega
  have hs := hsum xa xb hxa hxb
  clear hxa hxb hsum
  clear hcr hcw
  have i2 : IntKind.i64.wrap ((xa.n : Int) + (xb.n : Int)) = (xa.n : Int) + (xb.n : Int) := by rw [IntKind.wrap_i64]; omega
  conv => arg 2; whnf
  go_wp2_with fail
  go_region_held3 (fun W => W.cell? ⟨gw, ka, none⟩ = some (.slice xa.a xa.n xa.c) ∧ W.cell? ⟨gw, kb, none⟩ = some (.slice xb.a xb.n xb.c)) (first | (go_keep; done)) (fail)
  go_wp2_with fail
  go_region_held3 (fun W => W.cell? ⟨gr, ka, none⟩ = some (.pointer xa.r) ∧ W.cell? ⟨gr, kb, none⟩ = some (.pointer xb.r)) (first | (go_keep; done))
    (first
      | (go_at_call 7; refine (join_full oka.row.drew.drew okb.row.drew.drew ?_ oka.sz okb.sz).mono ?_; (have := sa.out; have := sb.out; omega); rintro e w1 ⟨rfl, rfl⟩))
  go_wp2_with fail
  refine (error_any ⟨Or.inr rfl⟩ (hst.err.below (below_drew (below_drew (Below.refl _ _))))).mono ?_
  rintro e w2 ⟨rfl, hb⟩
  replace hst := hst.step (below_drew (below_drew hb))
  go_wp2_with fail
  exact after_intro _ _ es hpos (by omega) hst rfl

set_option maxRecDepth 1000000 in
set_option maxHeartbeats 4000000 in
theorem sw2_ok {w0 wr : World} {a : Option Addr} {n cap m : Nat} {U : Nat → Value} {r v : Value} {es : List El} {gs : Nat} {what x y : Int} {al : Option Addr} {nl cl ka kb : Nat} {xs : List Int} (h0 : ErrType w0) (hst : Stand w0 wr r v es) (hlen : es.length ≤ 81) (hpos : 0 < es.length)
    (hv : StepVar w0 wr gs what x y al nl cl xs) (hka : ka < es.length) (hkb : kb < es.length) (hw : what = 2) (hsum : ∀ xa xb, es[ka]? = some xa → es[kb]? = some xb → xa.n + xb.n ≤ 400) :
    ((Tryd.f3.body.bind (blockOf 2)).getD .skip).wp Tryd.prog (fun e A w' => e = .normal ∧ After w0 a n cap m es.length A w') ⟨#[.slice a n cap, U 1, U 2, r, v, .int .i64 (m : Int), .pointer (some ⟨gs, 0, none⟩), .int .i64 (ka : Int), .int .i64 (kb : Int), .int .i64 0, U 10, U 11, U 12, U 13, U 14, U 15, U 16, U 17, U 18, U 19, U 20, U 21, U 22, U 23, U 24, U 25, U 26, U 27, U 28, U 29, U 30, U 31, U 32, U 33, U 34, U 35, U 36, U 37, U 38, U 39, U 40, U 41, U 42, U 43, U 44, U 45, U 46, U 47, U 48, U 49, U 50, U 51, U 52, U 53, U 54, U 55, U 56, U 57, .int .i64 what, U 59, U 60, U 61, U 62, U 63, U 64, U 65, U 66, U 67, U 68, U 69, U 70, U 71, U 72, U 73, U 74, U 75, U 76, U 77, U 78, U 79, U 80, U 81, U 82, U 83, U 84, U 85, U 86, U 87, U 88, U 89, U 90, U 91, U 92, U 93, U 94, U 95, U 96, U 97, U 98, U 99, U 100, U 101, U 102, U 103, U 104, U 105, U 106, U 107, U 108, U 109, U 110, U 111, U 112, U 113, U 114, U 115, U 116, U 117, U 118, U 119, U 120, U 121, U 122, U 123, U 124, U 125, U 126, U 127, U 128, U 129, U 130, U 131, U 132, U 133, U 134, U 135, U 136, U 137, U 138, U 139, U 140, U 141, U 142, U 143, U 144, U 145, U 146, U 147, U 148, U 149, U 150, U 151, U 152, U 153, U 154, U 155, U 156, U 157, U 158, U 159, U 160, U 161, U 162, U 163, U 164, U 165, U 166, U 167, U 168, U 169, U 170, U 171, U 172, U 173, U 174, U 175, U 176, U 177, U 178, U 179, U 180, U 181, U 182, U 183, U 184, U 185, U 186, U 187, U 188, U 189, U 190, U 191, U 192, U 193, U 194, U 195, U 196, U 197, U 198, U 199, U 200, U 201, U 202, U 203, U 204, U 205, U 206, U 207, U 208, U 209, U 210, U 211, U 212, U 213, U 214, U 215, U 216, U 217, U 218, U 219, U 220, U 221, U 222, U 223, U 224, U 225, U 226, U 227, U 228, U 229, U 230, U 231, U 232, U 233, U 234, U 235, U 236, U 237, U 238, U 239, U 240, U 241, U 242, U 243, U 244, U 245, U 246, U 247, U 248, U 249, U 250, U 251, U 252, U 253, U 254, U 255, U 256, U 257, U 258, U 259, U 260, U 261, U 262, U 263, U 264, U 265, U 266, U 267, U 268, U 269, U 270, U 271, U 272, U 273, U 274, U 275, U 276, U 277, U 278, U 279, U 280, U 281, U 282, U 283, U 284, U 285, U 286, U 287, U 288, U 289, U 290, U 291, U 292, U 293, U 294, U 295, U 296, U 297, U 298, U 299, U 300, U 301, U 302, U 303, U 304, U 305, U 306, U 307, U 308, U 309, U 310], []⟩ wr := by
  subst hw
  obtain ⟨i0, hi, hz0, hz1, hz2⟩ := info_parts Tryd.infoSeqPtr
  obtain ⟨j0, hj, hy0, hy1, hy2⟩ := info_parts Tryd.infoInts
  obtain ⟨gr, cr, rfl, hr1, hr2, hcr⟩ := own_cell hst.rows hpos
  obtain ⟨gw, cw, rfl, hw1, hw2, hcw⟩ := own_cell hst.want hpos
  obtain ⟨xa, hxa⟩ : ∃ z, es[ka]? = some z := ⟨_, List.getElem?_eq_getElem hka⟩
  have oka := hst.ok xa (List.mem_of_getElem? hxa)
  have na : xa.n ≤ 400 := by rw [← oka.ints.len, items_len]; exact oka.sz
  have sa : Hid (xa.n = sz xa.T) := by show xa.n = sz xa.T; rw [← oka.ints.len, items_len]
  have ra := hcr ka (.pointer xa.r) (by simp [hxa])
  have wa := hcw ka (.slice xa.a xa.n xa.c) (by simp [hxa])
  have i0a : (0 : Int) ≤ (ka : Int) := by omega
  have i1a : (ka : Int) < (es.length : Int) := by omega
  obtain ⟨xb, hxb⟩ : ∃ z, es[kb]? = some z := ⟨_, List.getElem?_eq_getElem hkb⟩
  have okb := hst.ok xb (List.mem_of_getElem? hxb)
  have nb : xb.n ≤ 400 := by rw [← okb.ints.len, items_len]; exact okb.sz
  have sb : Hid (xb.n = sz xb.T) := by show xb.n = sz xb.T; rw [← okb.ints.len, items_len]
  have rb := hcr kb (.pointer xb.r) (by simp [hxb])
  have wb := hcw kb (.slice xb.a xb.n xb.c) (by simp [hxb])
  have i0b : (0 : Int) ≤ (kb : Int) := by omega
  have i1b : (kb : Int) < (es.length : Int) := by omega
  have hs := hsum xa xb hxa hxb
  clear hxa hxb hsum
  clear hcr hcw
  have i2 : IntKind.i64.wrap ((xa.n : Int) + (xb.n : Int)) = (xa.n : Int) + (xb.n : Int) := by rw [IntKind.wrap_i64]; omega
  conv => arg 2; whnf
  go_wp2_with fail
  go_region_held3 (fun W => W.cell? ⟨gw, ka, none⟩ = some (.slice xa.a xa.n xa.c) ∧ W.cell? ⟨gw, kb, none⟩ = some (.slice xb.a xb.n xb.c)) (first | (go_keep; done)) (fail)
  go_wp2_with fail
  go_region_held3 (fun W => W.cell? ⟨gr, ka, none⟩ = some (.pointer xa.r) ∧ W.cell? ⟨gr, kb, none⟩ = some (.pointer xb.r)) (first | (go_keep; done) | exact ⟨cell_keep hb1 ra, cell_keep hb1 rb⟩)
    (first
      | (go_at_call 7; refine (join_any oka.row.drew.drew okb.row.drew.drew oka.bal okb.bal ?_).mono ?_; (have := sa.out; have := sb.out; omega); rintro e w1 ⟨v1, T1, rfl, hb1, hr1', hbal1, hi1⟩))
  go_wp2_with fail
  have HI1 : Hid (items T1 = items xa.T ++ items xb.T) := hi1
  have hB1 := below_drew (below_drew hb1)
  clear hi1 hb1
  refine (error_any ⟨Or.inl ⟨rfl, rfl⟩⟩ (hst.err.below hB1)).mono ?_
  rintro e w2 ⟨rfl, hb2⟩
  have hB2 := below_step hB1 hb2
  replace hst := hst.step hB2
  replace oka := oka.kept (Kept.of_below hB2)
  replace okb := okb.kept (Kept.of_below hB2)
  replace hr1' := hr1'.below hb2
  replace wa := cell_keep hB2 wa
  replace wb := cell_keep hB2 wb
  clear hB1 hB2 hb2 ra rb
  go_wp2_with (first
    | (at_builtin; refine wpList_append_ints _ rfl (.tmp 178) (.tmp 182) rfl (base := w0.heap.size) (n := 0) (xs := []) rfl (World.ownsRow_nil _ _ _ _) rfl oka.ints (by omega) hst.below.size ?_))
  intro vA w3 hownA hgrowA hatA
  try simp only [Nat.zero_add, List.nil_append] at hownA
  have hb3 : Below w2.heap.size w2 w3 := (Below.refl _ _).grown hgrowA (Nat.le_refl _) (fun k e => by cases e)
  obtain ⟨aA, cA, rfl⟩ := own_form hownA
  have wb3 := cell_keep hb3 wb
  have hbase : w0.heap.size ≤ w3.heap.size := Nat.le_trans hst.below.size hb3.size
  clear hgrowA wa wb
  go_wp2_with (first
    | (at_builtin; refine wpList_append_ints _ rfl (.tmp 184) (.tmp 188) rfl (base := w0.heap.size) rfl hownA rfl (okb.ints.below hb3) (by omega) hbase ?_))
  intro vB w4 hownB hgrowB hatB
  have hb4 : Below w2.heap.size w2 w4 := hb3.grown hgrowB hb3.size (fun k e => by
    rcases hatA with hatA | hatA
    · rw [hatA] at e; cases e
    · rw [hatA] at e; cases e; exact Nat.le_refl _)
  obtain ⟨aB, cB, rfl⟩ := own_form hownB
  rw [← List.map_append] at hownB
  obtain ⟨li, lo, lc⟩ := ints_of_own hownB
  replace hst := hst.step hb4
  replace hr1' := hr1'.below hb4
  clear hownA hownB hgrowB hatA hatB hb3 hb4 wb3 hbase
  go_wp2_with (first
    | (at_builtin; refine wpList_append_lies _ rfl (.tmp 190) (.tmp 192) 23 rfl w0.heap.size 30 i0 (.pointer none) 1 8 Tryd.underlying23 hi hz0 hz1 hz2 rfl (by decide) (.slice (some ⟨gr, 0, none⟩) es.length cr) es.length (es.map fun x => .pointer x.r) rfl (ownsRow_below hst.rows ((Below.refl _ _).alloc (Nat.le_refl _) _)) ⟨w4.heap.size, 0, none⟩ 1 1 [.pointer v1] rfl rfl ?c1 ?c2 (by decide) ?c3 ?c4 ?c5 _ rfl ?_))
  case c1 => exact cell_one_new _ _ _
  case c2 => intro u hu; simp at hu; subst hu; rfl
  case c3 => unfold maxLen; omega
  case c4 => omega
  case c5 => have := hst.below.size; simp; omega
  intro g1 cap1 w5 hown1 hgrow1 hat1 hlt1
  have hhk := (hst.step ((Below.refl _ _).alloc (Nat.le_refl _) _)).rows_grown h0 (ms := [v1]) hown1 hgrow1
  have hkB : Kept w0.heap.size w4 w5 := Kept.trans (Kept.of_below ((Below.refl _ _).alloc (Nat.le_refl _) _)) hhk.2
  have hh := hhk.1
  clear hhk hown1 hgrow1 hat1 hlt1 hst
  replace hr1' := hr1'.kept hkB
  have lk := ints_kept li lo hkB
  go_wp2_with (first
    | (at_builtin; refine wpList_append_lies _ rfl (.tmp 194) (.tmp 196) 24 rfl w0.heap.size 25 j0 (.slice none 0 0) 1 24 Tryd.underlying24 hj hy0 hy1 hy2 rfl (by decide) (.slice (some ⟨gw, 0, none⟩) es.length cw) es.length (es.map fun x => .slice x.a x.n x.c) rfl (ownsRow_below hh.want ((Below.refl _ _).alloc (Nat.le_refl _) _)) ⟨w5.heap.size, 0, none⟩ 1 1 [.slice aB (xa.n + xb.n) cB] rfl rfl ?c1 ?c2 (by decide) ?c3 ?c4 ?c5 _ rfl ?_))
  case c1 => exact cell_one_new _ _ _
  case c2 => intro u hu; simp at hu; subst hu; rfl
  case c3 => unfold maxLen; omega
  case c4 => omega
  case c5 => have := hh.below.size; simp; omega
  intro g2 cap2 w6 hown2 hgrow2 hat2 hlt2
  have hs2 := (Half.want_grown (ns := [⟨v1, T1, aB, xa.n + xb.n, cB⟩]) (hh.step ((Below.refl _ _).alloc (Nat.le_refl _) _)) h0 hown2 hgrow2 ?ok).1
  case ok =>
    intro z hz
    simp only [List.mem_singleton] at hz
    subst hz
    have lk2 := ints_kept lk.1 lk.2 (Kept.of_below (w' := w5.alloc (.cells #[.slice aB (xa.n + xb.n) cB] 25)) ((Below.refl _ _).alloc (Nat.le_refl _) _))
    exact ⟨hr1'.below ((Below.refl _ _).alloc (Nat.le_refl _) _), hbal1, by rw [sz_of_items HI1.out, List.length_append, oka.ints.len, okb.ints.len]; exact hs, by rw [HI1.out]; exact lk2.1, lc, lk2.2⟩
  clear hown2 hgrow2 hat2 hlt2
  go_wp2_with fail
  exact after_intro _ _ _ (by simp) (by simp) hs2 rfl

end Go.Proofs.YtpmkllmeilhakaaDoor
