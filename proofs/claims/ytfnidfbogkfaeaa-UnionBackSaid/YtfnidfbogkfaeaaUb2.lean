/-
  UnionBack: the loops that keep the answers.
-/
import Derived.Test.YtfnidfbogkfaeaaUa
namespace Go.Proofs.Ytfnidfbogkfaeaa
open Go.RowKit Go.Deep
set_option linter.unusedVariables false


set_option maxRecDepth 1000000 in
/-- Where the loop stands. -/
def biI (w0 : World) (n g : Nat) (F : Nat → Prop) (L : List (Nat × Nat)) (a : Nat) (c2 c14 c15 : Value) (m : Nat) (A : Act) (w : World) : Prop :=
  ∃ (U : Nat → Value) (v : Value), m ≤ a ∧ BW w0 n g F L w v (triL L a ++ rowL L a m) ∧ A = ⟨#[.int .i64 (n : Nat), U 1, c2, U 3, U 4, U 5, U 6, U 7, U 8, U 9, U 10, .pointer (some ⟨g, 0, none⟩), U 12, U 13, c14, c15, v, .int .i64 (a : Nat), .int .i64 (m : Nat), U 19, U 20, U 21, U 22, U 23, U 24, U 25, U 26, U 27, U 28, U 29, U 30, U 31, U 32, U 33, U 34, U 35, U 36, U 37, U 38, U 39, U 40, U 41, U 42, U 43, U 44, U 45, U 46, U 47, U 48, U 49, U 50, U 51, U 52, U 53, U 54, U 55, U 56, U 57, U 58, U 59, U 60, U 61, U 62, U 63, U 64, U 65, U 66, U 67, U 68, U 69, U 70, U 71, U 72, U 73, U 74, U 75, U 76, U 77, U 78, U 79, U 80, U 81, U 82, U 83, U 84, U 85, U 86, U 87, U 88, U 89, U 90, U 91, U 92, U 93, U 94, U 95, U 96, U 97, U 98, U 99, U 100, U 101, U 102, U 103, U 104, U 105, U 106, U 107, U 108, U 109, U 110, U 111, U 112, U 113, U 114, U 115, U 116, U 117, U 118, U 119, U 120, U 121, U 122, U 123, U 124, U 125, U 126, U 127, U 128, U 129, U 130, U 131, U 132, U 133, U 134, U 135, U 136, U 137, U 138, U 139, U 140, U 141, U 142, U 143, U 144, U 145, U 146, U 147, U 148, U 149, U 150, U 151, U 152, U 153, U 154, U 155, U 156, U 157, U 158, U 159, U 160, U 161, U 162, U 163, U 164, U 165, U 166, U 167, U 168, U 169, U 170, U 171, U 172, U 173, U 174, U 175, U 176, U 177, U 178, U 179, U 180, U 181, U 182, U 183, U 184], []⟩

set_option maxRecDepth 1000000 in
theorem bi_intro {w0 : World} {n g : Nat} {F : Nat → Prop} {L : List (Nat × Nat)} {a : Nat} {c2 c14 c15 : Value} {m : Nat} {A : Act} {w : World} (v : Value) (h1 : m ≤ a) (hf : BW w0 n g F L w v (triL L a ++ rowL L a m)) (h : A = ⟨#[.int .i64 (n : Nat), A.tmps.getD 1 undef, c2, A.tmps.getD 3 undef, A.tmps.getD 4 undef, A.tmps.getD 5 undef, A.tmps.getD 6 undef, A.tmps.getD 7 undef, A.tmps.getD 8 undef, A.tmps.getD 9 undef, A.tmps.getD 10 undef, .pointer (some ⟨g, 0, none⟩), A.tmps.getD 12 undef, A.tmps.getD 13 undef, c14, c15, v, .int .i64 (a : Nat), .int .i64 (m : Nat), A.tmps.getD 19 undef, A.tmps.getD 20 undef, A.tmps.getD 21 undef, A.tmps.getD 22 undef, A.tmps.getD 23 undef, A.tmps.getD 24 undef, A.tmps.getD 25 undef, A.tmps.getD 26 undef, A.tmps.getD 27 undef, A.tmps.getD 28 undef, A.tmps.getD 29 undef, A.tmps.getD 30 undef, A.tmps.getD 31 undef, A.tmps.getD 32 undef, A.tmps.getD 33 undef, A.tmps.getD 34 undef, A.tmps.getD 35 undef, A.tmps.getD 36 undef, A.tmps.getD 37 undef, A.tmps.getD 38 undef, A.tmps.getD 39 undef, A.tmps.getD 40 undef, A.tmps.getD 41 undef, A.tmps.getD 42 undef, A.tmps.getD 43 undef, A.tmps.getD 44 undef, A.tmps.getD 45 undef, A.tmps.getD 46 undef, A.tmps.getD 47 undef, A.tmps.getD 48 undef, A.tmps.getD 49 undef, A.tmps.getD 50 undef, A.tmps.getD 51 undef, A.tmps.getD 52 undef, A.tmps.getD 53 undef, A.tmps.getD 54 undef, A.tmps.getD 55 undef, A.tmps.getD 56 undef, A.tmps.getD 57 undef, A.tmps.getD 58 undef, A.tmps.getD 59 undef, A.tmps.getD 60 undef, A.tmps.getD 61 undef, A.tmps.getD 62 undef, A.tmps.getD 63 undef, A.tmps.getD 64 undef, A.tmps.getD 65 undef, A.tmps.getD 66 undef, A.tmps.getD 67 undef, A.tmps.getD 68 undef, A.tmps.getD 69 undef, A.tmps.getD 70 undef, A.tmps.getD 71 undef, A.tmps.getD 72 undef, A.tmps.getD 73 undef, A.tmps.getD 74 undef, A.tmps.getD 75 undef, A.tmps.getD 76 undef, A.tmps.getD 77 undef, A.tmps.getD 78 undef, A.tmps.getD 79 undef, A.tmps.getD 80 undef, A.tmps.getD 81 undef, A.tmps.getD 82 undef, A.tmps.getD 83 undef, A.tmps.getD 84 undef, A.tmps.getD 85 undef, A.tmps.getD 86 undef, A.tmps.getD 87 undef, A.tmps.getD 88 undef, A.tmps.getD 89 undef, A.tmps.getD 90 undef, A.tmps.getD 91 undef, A.tmps.getD 92 undef, A.tmps.getD 93 undef, A.tmps.getD 94 undef, A.tmps.getD 95 undef, A.tmps.getD 96 undef, A.tmps.getD 97 undef, A.tmps.getD 98 undef, A.tmps.getD 99 undef, A.tmps.getD 100 undef, A.tmps.getD 101 undef, A.tmps.getD 102 undef, A.tmps.getD 103 undef, A.tmps.getD 104 undef, A.tmps.getD 105 undef, A.tmps.getD 106 undef, A.tmps.getD 107 undef, A.tmps.getD 108 undef, A.tmps.getD 109 undef, A.tmps.getD 110 undef, A.tmps.getD 111 undef, A.tmps.getD 112 undef, A.tmps.getD 113 undef, A.tmps.getD 114 undef, A.tmps.getD 115 undef, A.tmps.getD 116 undef, A.tmps.getD 117 undef, A.tmps.getD 118 undef, A.tmps.getD 119 undef, A.tmps.getD 120 undef, A.tmps.getD 121 undef, A.tmps.getD 122 undef, A.tmps.getD 123 undef, A.tmps.getD 124 undef, A.tmps.getD 125 undef, A.tmps.getD 126 undef, A.tmps.getD 127 undef, A.tmps.getD 128 undef, A.tmps.getD 129 undef, A.tmps.getD 130 undef, A.tmps.getD 131 undef, A.tmps.getD 132 undef, A.tmps.getD 133 undef, A.tmps.getD 134 undef, A.tmps.getD 135 undef, A.tmps.getD 136 undef, A.tmps.getD 137 undef, A.tmps.getD 138 undef, A.tmps.getD 139 undef, A.tmps.getD 140 undef, A.tmps.getD 141 undef, A.tmps.getD 142 undef, A.tmps.getD 143 undef, A.tmps.getD 144 undef, A.tmps.getD 145 undef, A.tmps.getD 146 undef, A.tmps.getD 147 undef, A.tmps.getD 148 undef, A.tmps.getD 149 undef, A.tmps.getD 150 undef, A.tmps.getD 151 undef, A.tmps.getD 152 undef, A.tmps.getD 153 undef, A.tmps.getD 154 undef, A.tmps.getD 155 undef, A.tmps.getD 156 undef, A.tmps.getD 157 undef, A.tmps.getD 158 undef, A.tmps.getD 159 undef, A.tmps.getD 160 undef, A.tmps.getD 161 undef, A.tmps.getD 162 undef, A.tmps.getD 163 undef, A.tmps.getD 164 undef, A.tmps.getD 165 undef, A.tmps.getD 166 undef, A.tmps.getD 167 undef, A.tmps.getD 168 undef, A.tmps.getD 169 undef, A.tmps.getD 170 undef, A.tmps.getD 171 undef, A.tmps.getD 172 undef, A.tmps.getD 173 undef, A.tmps.getD 174 undef, A.tmps.getD 175 undef, A.tmps.getD 176 undef, A.tmps.getD 177 undef, A.tmps.getD 178 undef, A.tmps.getD 179 undef, A.tmps.getD 180 undef, A.tmps.getD 181 undef, A.tmps.getD 182 undef, A.tmps.getD 183 undef, A.tmps.getD 184 undef], []⟩) : biI w0 n g F L a c2 c14 c15 m A w :=
  ⟨fun k => A.tmps.getD k undef, v,  h1, hf, h⟩

set_option maxRecDepth 1000000 in
set_option maxHeartbeats 4000000 in
theorem bi_go {w0 : World} {n g : Nat} {F : Nat → Prop} {L : List (Nat × Nat)} {a : Nat} {c2 c14 c15 : Value} {m : Nat} {U : Nat → Value} {w : World} {v : Value} (ha : a < n) (hn : n ≤ 60) (hm : m < a) (hf : BW w0 n g F L w v (triL L a ++ rowL L a m)) (K : Act → World → Prop) (Q : Exit → Act → World → Prop) (hK : ∀ A w', biI w0 n g F L a c2 c14 c15 (m + 1) A w' → K A w') :
    (loopAt Try.f5 2).wp Try.prog (Exit.then K Q) ⟨#[.int .i64 (n : Nat), U 1, c2, U 3, U 4, U 5, U 6, U 7, U 8, U 9, U 10, .pointer (some ⟨g, 0, none⟩), U 12, U 13, c14, c15, v, .int .i64 (a : Nat), .int .i64 (m : Nat), U 19, U 20, U 21, U 22, U 23, U 24, U 25, U 26, U 27, U 28, U 29, U 30, U 31, U 32, U 33, U 34, U 35, U 36, U 37, U 38, U 39, U 40, U 41, U 42, U 43, U 44, U 45, U 46, U 47, U 48, U 49, U 50, U 51, U 52, U 53, U 54, U 55, U 56, U 57, U 58, U 59, U 60, U 61, U 62, U 63, U 64, U 65, U 66, U 67, U 68, U 69, U 70, U 71, U 72, U 73, U 74, U 75, U 76, U 77, U 78, U 79, U 80, U 81, U 82, U 83, U 84, U 85, U 86, U 87, U 88, U 89, U 90, U 91, U 92, U 93, U 94, U 95, U 96, U 97, U 98, U 99, U 100, U 101, U 102, U 103, U 104, U 105, U 106, U 107, U 108, U 109, U 110, U 111, U 112, U 113, U 114, U 115, U 116, U 117, U 118, U 119, U 120, U 121, U 122, U 123, U 124, U 125, U 126, U 127, U 128, U 129, U 130, U 131, U 132, U 133, U 134, U 135, U 136, U 137, U 138, U 139, U 140, U 141, U 142, U 143, U 144, U 145, U 146, U 147, U 148, U 149, U 150, U 151, U 152, U 153, U 154, U 155, U 156, U 157, U 158, U 159, U 160, U 161, U 162, U 163, U 164, U 165, U 166, U 167, U 168, U 169, U 170, U 171, U 172, U 173, U 174, U 175, U 176, U 177, U 178, U 179, U 180, U 181, U 182, U 183, U 184], []⟩ w := by
  have HK : Hid (∀ A w', biI w0 n g F L a c2 c14 c15 (m + 1) A w' → K A w') := hK
  clear hK
  obtain ⟨i0, hi0, hz0, hz1, hz2⟩ := info_parts Try.infoBool
  have hlen : (triL L a ++ rowL L a m).length < 10000 := by
    have := triL_len L a (by omega)
    rw [List.length_append, rowL_len]
    omega
  have hsame := same_u hf.u a m ha (by omega)
  have HR : Hid (triL L a ++ rowL L a (m + 1) = (triL L a ++ rowL L a m) ++ [decide (rt L a = rt L m)]) := (List.append_assoc _ _ _).symm
  generalize decide (rt L a = rt L m) = x at *
  generalize triL L a ++ rowL L a m = xs at *
  have HF : Hid (BW w0 n g F L w v xs) := hf
  clear hf
  conv => arg 2; whnf
  go_wp2_with fail
  refine hsame.mono ?_
  clear hsame
  rintro e w1 ⟨rfl, hB⟩
  have hf := HF.out.step hB
  clear HF hB
  have HF1 : Hid (BW w0 n g F L (w1.alloc (.cells #[.bool x] 4)) v xs) := hf.step (below_one _ _)
  have hb1 := hf.below.size
  clear hf
  go_wp2_with (first
    | (at_builtin; refine wpList_append_lies _ rfl (.tmp 107) (.tmp 109) 45 rfl w0.heap.size 4 i0 (.bool false) 1 1 Try.underlying45 hi0 hz0 hz1 hz2 rfl (by decide) v xs.length (xs.map Value.bool) rfl HF1.out.own ⟨w1.heap.size, 0, none⟩ 1 1 [.bool x] rfl rfl ?c1 ?c2 (by decide) ?c3 ?c4 ?c5 _ rfl ?_))
  case c1 => exact cell_one_new _ _ _
  case c2 => intro u hu; simp at hu; subst hu; rfl
  case c3 => unfold maxLen; omega
  case c4 => omega
  case c5 => simp; omega
  intro g1 cap1 w2 hown hgrow hat hlt
  have HF2 : Hid (BW w0 n g F L w2 (.slice (some ⟨g1, 0, none⟩) (xs.length + 1) cap1) (triL L a ++ rowL L a (m + 1))) := by
    show BW _ _ _ _ _ _ _ _
    rw [HR.out]
    exact HF1.out.grow hown hgrow (by simpa using hat)
  clear hown hgrow hat hlt HF1
  go_wp2_with fail
  rw [show ((m : Int) + 1) = ((m + 1 : Nat) : Int) from by omega]
  exact HK.out _ _ (bi_intro _ (by omega) HF2.out rfl)

set_option maxRecDepth 1000000 in
set_option maxHeartbeats 4000000 in
theorem bi_end {w0 : World} {n g : Nat} {F : Nat → Prop} {L : List (Nat × Nat)} {a : Nat} {c2 c14 c15 : Value} {m : Nat} {U : Nat → Value} {w : World} {v : Value} (ha : a < n) (hn : n ≤ 60) (hend : m = a) (hf : BW w0 n g F L w v (triL L a ++ rowL L a m)) (K : Act → World → Prop) (Q : Exit → Act → World → Prop) (hQ : ∀ A w', biI w0 n g F L a c2 c14 c15 (a) A w' → Q (.exit 4) A w') :
    (loopAt Try.f5 2).wp Try.prog (Exit.then K Q) ⟨#[.int .i64 (n : Nat), U 1, c2, U 3, U 4, U 5, U 6, U 7, U 8, U 9, U 10, .pointer (some ⟨g, 0, none⟩), U 12, U 13, c14, c15, v, .int .i64 (a : Nat), .int .i64 (m : Nat), U 19, U 20, U 21, U 22, U 23, U 24, U 25, U 26, U 27, U 28, U 29, U 30, U 31, U 32, U 33, U 34, U 35, U 36, U 37, U 38, U 39, U 40, U 41, U 42, U 43, U 44, U 45, U 46, U 47, U 48, U 49, U 50, U 51, U 52, U 53, U 54, U 55, U 56, U 57, U 58, U 59, U 60, U 61, U 62, U 63, U 64, U 65, U 66, U 67, U 68, U 69, U 70, U 71, U 72, U 73, U 74, U 75, U 76, U 77, U 78, U 79, U 80, U 81, U 82, U 83, U 84, U 85, U 86, U 87, U 88, U 89, U 90, U 91, U 92, U 93, U 94, U 95, U 96, U 97, U 98, U 99, U 100, U 101, U 102, U 103, U 104, U 105, U 106, U 107, U 108, U 109, U 110, U 111, U 112, U 113, U 114, U 115, U 116, U 117, U 118, U 119, U 120, U 121, U 122, U 123, U 124, U 125, U 126, U 127, U 128, U 129, U 130, U 131, U 132, U 133, U 134, U 135, U 136, U 137, U 138, U 139, U 140, U 141, U 142, U 143, U 144, U 145, U 146, U 147, U 148, U 149, U 150, U 151, U 152, U 153, U 154, U 155, U 156, U 157, U 158, U 159, U 160, U 161, U 162, U 163, U 164, U 165, U 166, U 167, U 168, U 169, U 170, U 171, U 172, U 173, U 174, U 175, U 176, U 177, U 178, U 179, U 180, U 181, U 182, U 183, U 184], []⟩ w := by
  have HQ : Hid (∀ A w', biI w0 n g F L a c2 c14 c15 m A w' → Q (.exit 4) A w') := fun A w' h => hQ A w' (by rw [hend] at h; exact h)
  have h1 : m ≤ a := by omega
  have HF : Hid (BW w0 n g F L w v (triL L a ++ rowL L a m)) := hf
  clear hQ hf
  have hnl : ¬ m < a := by omega
  clear hend
  conv => arg 2; whnf
  go_wp2_with fail
  exact HQ.out _ _ (bi_intro _ h1 HF.out rfl)

/-- How many rounds are still to come, at most. -/
def bi_togo (B : Nat) (A : Act) (_w : World) : Nat := B - (intOf (A.tmps.getD 18 undef)).toNat

set_option maxRecDepth 1000000 in
theorem bi_togo_is {w0 : World} {n g : Nat} {F : Nat → Prop} {L : List (Nat × Nat)} {a : Nat} {c2 c14 c15 : Value} {m : Nat} {A : Act} {w : World} (h : biI w0 n g F L a c2 c14 c15 m A w) : bi_togo (a) A w = a - m := by
  obtain ⟨U, v,  _, _, rfl⟩ := h
  show a - ((m : Nat) : Int).toNat = a - m
  omega

theorem bi_round {w0 : World} {n g : Nat} {F : Nat → Prop} {L : List (Nat × Nat)} {a : Nat} {c2 c14 c15 : Value} (ha : a < n) (hn : n ≤ 60) (Q : Exit → Act → World → Prop) (hQ : ∀ A w', biI w0 n g F L a c2 c14 c15 (a) A w' → Q (.exit 4) A w') (A : Act) (w : World) (h : ∃ m, biI w0 n g F L a c2 c14 c15 m A w) :
    (loopAt Try.f5 2).wp Try.prog (Exit.then (fun A' w' => (∃ m, biI w0 n g F L a c2 c14 c15 m A' w') ∧ bi_togo (a) A' w' < bi_togo (a) A w) Q) A w := by
  obtain ⟨m, hI⟩ := h
  have ht := bi_togo_is hI
  obtain ⟨U, v,  h1, hf, rfl⟩ := hI
  by_cases hend : m = a
  · exact bi_end ha hn hend hf _ _ hQ
  · refine bi_go ha hn (by omega) hf _ _ fun A' w' h' => ⟨⟨m + 1, h'⟩, ?_⟩
    rw [bi_togo_is h', ht]
    omega

set_option maxRecDepth 1000000 in
theorem bi_loop {w0 : World} {n g : Nat} {F : Nat → Prop} {L : List (Nat × Nat)} {a : Nat} {c2 c14 c15 : Value} (ha : a < n) (hn : n ≤ 60) {w : World} {v : Value} (hf : BW w0 n g F L w v (triL L a ++ rowL L a 0)) (Q : Exit → Act → World → Prop) (hQ : ∀ A w', biI w0 n g F L a c2 c14 c15 (a) A w' → Q (.exit 4) A w') {A : Act} (hA : A = ⟨#[.int .i64 (n : Nat), A.tmps.getD 1 undef, c2, A.tmps.getD 3 undef, A.tmps.getD 4 undef, A.tmps.getD 5 undef, A.tmps.getD 6 undef, A.tmps.getD 7 undef, A.tmps.getD 8 undef, A.tmps.getD 9 undef, A.tmps.getD 10 undef, .pointer (some ⟨g, 0, none⟩), A.tmps.getD 12 undef, A.tmps.getD 13 undef, c14, c15, v, .int .i64 (a : Nat), .int .i64 0, A.tmps.getD 19 undef, A.tmps.getD 20 undef, A.tmps.getD 21 undef, A.tmps.getD 22 undef, A.tmps.getD 23 undef, A.tmps.getD 24 undef, A.tmps.getD 25 undef, A.tmps.getD 26 undef, A.tmps.getD 27 undef, A.tmps.getD 28 undef, A.tmps.getD 29 undef, A.tmps.getD 30 undef, A.tmps.getD 31 undef, A.tmps.getD 32 undef, A.tmps.getD 33 undef, A.tmps.getD 34 undef, A.tmps.getD 35 undef, A.tmps.getD 36 undef, A.tmps.getD 37 undef, A.tmps.getD 38 undef, A.tmps.getD 39 undef, A.tmps.getD 40 undef, A.tmps.getD 41 undef, A.tmps.getD 42 undef, A.tmps.getD 43 undef, A.tmps.getD 44 undef, A.tmps.getD 45 undef, A.tmps.getD 46 undef, A.tmps.getD 47 undef, A.tmps.getD 48 undef, A.tmps.getD 49 undef, A.tmps.getD 50 undef, A.tmps.getD 51 undef, A.tmps.getD 52 undef, A.tmps.getD 53 undef, A.tmps.getD 54 undef, A.tmps.getD 55 undef, A.tmps.getD 56 undef, A.tmps.getD 57 undef, A.tmps.getD 58 undef, A.tmps.getD 59 undef, A.tmps.getD 60 undef, A.tmps.getD 61 undef, A.tmps.getD 62 undef, A.tmps.getD 63 undef, A.tmps.getD 64 undef, A.tmps.getD 65 undef, A.tmps.getD 66 undef, A.tmps.getD 67 undef, A.tmps.getD 68 undef, A.tmps.getD 69 undef, A.tmps.getD 70 undef, A.tmps.getD 71 undef, A.tmps.getD 72 undef, A.tmps.getD 73 undef, A.tmps.getD 74 undef, A.tmps.getD 75 undef, A.tmps.getD 76 undef, A.tmps.getD 77 undef, A.tmps.getD 78 undef, A.tmps.getD 79 undef, A.tmps.getD 80 undef, A.tmps.getD 81 undef, A.tmps.getD 82 undef, A.tmps.getD 83 undef, A.tmps.getD 84 undef, A.tmps.getD 85 undef, A.tmps.getD 86 undef, A.tmps.getD 87 undef, A.tmps.getD 88 undef, A.tmps.getD 89 undef, A.tmps.getD 90 undef, A.tmps.getD 91 undef, A.tmps.getD 92 undef, A.tmps.getD 93 undef, A.tmps.getD 94 undef, A.tmps.getD 95 undef, A.tmps.getD 96 undef, A.tmps.getD 97 undef, A.tmps.getD 98 undef, A.tmps.getD 99 undef, A.tmps.getD 100 undef, A.tmps.getD 101 undef, A.tmps.getD 102 undef, A.tmps.getD 103 undef, A.tmps.getD 104 undef, A.tmps.getD 105 undef, A.tmps.getD 106 undef, A.tmps.getD 107 undef, A.tmps.getD 108 undef, A.tmps.getD 109 undef, A.tmps.getD 110 undef, A.tmps.getD 111 undef, A.tmps.getD 112 undef, A.tmps.getD 113 undef, A.tmps.getD 114 undef, A.tmps.getD 115 undef, A.tmps.getD 116 undef, A.tmps.getD 117 undef, A.tmps.getD 118 undef, A.tmps.getD 119 undef, A.tmps.getD 120 undef, A.tmps.getD 121 undef, A.tmps.getD 122 undef, A.tmps.getD 123 undef, A.tmps.getD 124 undef, A.tmps.getD 125 undef, A.tmps.getD 126 undef, A.tmps.getD 127 undef, A.tmps.getD 128 undef, A.tmps.getD 129 undef, A.tmps.getD 130 undef, A.tmps.getD 131 undef, A.tmps.getD 132 undef, A.tmps.getD 133 undef, A.tmps.getD 134 undef, A.tmps.getD 135 undef, A.tmps.getD 136 undef, A.tmps.getD 137 undef, A.tmps.getD 138 undef, A.tmps.getD 139 undef, A.tmps.getD 140 undef, A.tmps.getD 141 undef, A.tmps.getD 142 undef, A.tmps.getD 143 undef, A.tmps.getD 144 undef, A.tmps.getD 145 undef, A.tmps.getD 146 undef, A.tmps.getD 147 undef, A.tmps.getD 148 undef, A.tmps.getD 149 undef, A.tmps.getD 150 undef, A.tmps.getD 151 undef, A.tmps.getD 152 undef, A.tmps.getD 153 undef, A.tmps.getD 154 undef, A.tmps.getD 155 undef, A.tmps.getD 156 undef, A.tmps.getD 157 undef, A.tmps.getD 158 undef, A.tmps.getD 159 undef, A.tmps.getD 160 undef, A.tmps.getD 161 undef, A.tmps.getD 162 undef, A.tmps.getD 163 undef, A.tmps.getD 164 undef, A.tmps.getD 165 undef, A.tmps.getD 166 undef, A.tmps.getD 167 undef, A.tmps.getD 168 undef, A.tmps.getD 169 undef, A.tmps.getD 170 undef, A.tmps.getD 171 undef, A.tmps.getD 172 undef, A.tmps.getD 173 undef, A.tmps.getD 174 undef, A.tmps.getD 175 undef, A.tmps.getD 176 undef, A.tmps.getD 177 undef, A.tmps.getD 178 undef, A.tmps.getD 179 undef, A.tmps.getD 180 undef, A.tmps.getD 181 undef, A.tmps.getD 182 undef, A.tmps.getD 183 undef, A.tmps.getD 184 undef], []⟩) : (Code.loop (loopAt Try.f5 2)).wp Try.prog Q A w :=
  wp_loop (fun A w => ∃ m, biI w0 n g F L a c2 c14 c15 m A w) (bi_togo (a)) ⟨0, bi_intro _ (Nat.zero_le _) hf hA⟩ (fun A w' h => bi_round ha hn Q hQ A w' h)

set_option maxRecDepth 1000000 in
/-- Where the loop stands. -/
def boI (w0 : World) (n g : Nat) (F : Nat → Prop) (L : List (Nat × Nat)) (c2 c14 c15 : Value) (m : Nat) (A : Act) (w : World) : Prop :=
  ∃ (U : Nat → Value) (v : Value), m ≤ n ∧ BW w0 n g F L w v (triL L m) ∧ A = ⟨#[.int .i64 (n : Nat), U 1, c2, U 3, U 4, U 5, U 6, U 7, U 8, U 9, U 10, .pointer (some ⟨g, 0, none⟩), U 12, U 13, c14, c15, v, .int .i64 (m : Nat), U 18, U 19, U 20, U 21, U 22, U 23, U 24, U 25, U 26, U 27, U 28, U 29, U 30, U 31, U 32, U 33, U 34, U 35, U 36, U 37, U 38, U 39, U 40, U 41, U 42, U 43, U 44, U 45, U 46, U 47, U 48, U 49, U 50, U 51, U 52, U 53, U 54, U 55, U 56, U 57, U 58, U 59, U 60, U 61, U 62, U 63, U 64, U 65, U 66, U 67, U 68, U 69, U 70, U 71, U 72, U 73, U 74, U 75, U 76, U 77, U 78, U 79, U 80, U 81, U 82, U 83, U 84, U 85, U 86, U 87, U 88, U 89, U 90, U 91, U 92, U 93, U 94, U 95, U 96, U 97, U 98, U 99, U 100, U 101, U 102, U 103, U 104, U 105, U 106, U 107, U 108, U 109, U 110, U 111, U 112, U 113, U 114, U 115, U 116, U 117, U 118, U 119, U 120, U 121, U 122, U 123, U 124, U 125, U 126, U 127, U 128, U 129, U 130, U 131, U 132, U 133, U 134, U 135, U 136, U 137, U 138, U 139, U 140, U 141, U 142, U 143, U 144, U 145, U 146, U 147, U 148, U 149, U 150, U 151, U 152, U 153, U 154, U 155, U 156, U 157, U 158, U 159, U 160, U 161, U 162, U 163, U 164, U 165, U 166, U 167, U 168, U 169, U 170, U 171, U 172, U 173, U 174, U 175, U 176, U 177, U 178, U 179, U 180, U 181, U 182, U 183, U 184], []⟩

set_option maxRecDepth 1000000 in
theorem bo_intro {w0 : World} {n g : Nat} {F : Nat → Prop} {L : List (Nat × Nat)} {c2 c14 c15 : Value} {m : Nat} {A : Act} {w : World} (v : Value) (h1 : m ≤ n) (hf : BW w0 n g F L w v (triL L m)) (h : A = ⟨#[.int .i64 (n : Nat), A.tmps.getD 1 undef, c2, A.tmps.getD 3 undef, A.tmps.getD 4 undef, A.tmps.getD 5 undef, A.tmps.getD 6 undef, A.tmps.getD 7 undef, A.tmps.getD 8 undef, A.tmps.getD 9 undef, A.tmps.getD 10 undef, .pointer (some ⟨g, 0, none⟩), A.tmps.getD 12 undef, A.tmps.getD 13 undef, c14, c15, v, .int .i64 (m : Nat), A.tmps.getD 18 undef, A.tmps.getD 19 undef, A.tmps.getD 20 undef, A.tmps.getD 21 undef, A.tmps.getD 22 undef, A.tmps.getD 23 undef, A.tmps.getD 24 undef, A.tmps.getD 25 undef, A.tmps.getD 26 undef, A.tmps.getD 27 undef, A.tmps.getD 28 undef, A.tmps.getD 29 undef, A.tmps.getD 30 undef, A.tmps.getD 31 undef, A.tmps.getD 32 undef, A.tmps.getD 33 undef, A.tmps.getD 34 undef, A.tmps.getD 35 undef, A.tmps.getD 36 undef, A.tmps.getD 37 undef, A.tmps.getD 38 undef, A.tmps.getD 39 undef, A.tmps.getD 40 undef, A.tmps.getD 41 undef, A.tmps.getD 42 undef, A.tmps.getD 43 undef, A.tmps.getD 44 undef, A.tmps.getD 45 undef, A.tmps.getD 46 undef, A.tmps.getD 47 undef, A.tmps.getD 48 undef, A.tmps.getD 49 undef, A.tmps.getD 50 undef, A.tmps.getD 51 undef, A.tmps.getD 52 undef, A.tmps.getD 53 undef, A.tmps.getD 54 undef, A.tmps.getD 55 undef, A.tmps.getD 56 undef, A.tmps.getD 57 undef, A.tmps.getD 58 undef, A.tmps.getD 59 undef, A.tmps.getD 60 undef, A.tmps.getD 61 undef, A.tmps.getD 62 undef, A.tmps.getD 63 undef, A.tmps.getD 64 undef, A.tmps.getD 65 undef, A.tmps.getD 66 undef, A.tmps.getD 67 undef, A.tmps.getD 68 undef, A.tmps.getD 69 undef, A.tmps.getD 70 undef, A.tmps.getD 71 undef, A.tmps.getD 72 undef, A.tmps.getD 73 undef, A.tmps.getD 74 undef, A.tmps.getD 75 undef, A.tmps.getD 76 undef, A.tmps.getD 77 undef, A.tmps.getD 78 undef, A.tmps.getD 79 undef, A.tmps.getD 80 undef, A.tmps.getD 81 undef, A.tmps.getD 82 undef, A.tmps.getD 83 undef, A.tmps.getD 84 undef, A.tmps.getD 85 undef, A.tmps.getD 86 undef, A.tmps.getD 87 undef, A.tmps.getD 88 undef, A.tmps.getD 89 undef, A.tmps.getD 90 undef, A.tmps.getD 91 undef, A.tmps.getD 92 undef, A.tmps.getD 93 undef, A.tmps.getD 94 undef, A.tmps.getD 95 undef, A.tmps.getD 96 undef, A.tmps.getD 97 undef, A.tmps.getD 98 undef, A.tmps.getD 99 undef, A.tmps.getD 100 undef, A.tmps.getD 101 undef, A.tmps.getD 102 undef, A.tmps.getD 103 undef, A.tmps.getD 104 undef, A.tmps.getD 105 undef, A.tmps.getD 106 undef, A.tmps.getD 107 undef, A.tmps.getD 108 undef, A.tmps.getD 109 undef, A.tmps.getD 110 undef, A.tmps.getD 111 undef, A.tmps.getD 112 undef, A.tmps.getD 113 undef, A.tmps.getD 114 undef, A.tmps.getD 115 undef, A.tmps.getD 116 undef, A.tmps.getD 117 undef, A.tmps.getD 118 undef, A.tmps.getD 119 undef, A.tmps.getD 120 undef, A.tmps.getD 121 undef, A.tmps.getD 122 undef, A.tmps.getD 123 undef, A.tmps.getD 124 undef, A.tmps.getD 125 undef, A.tmps.getD 126 undef, A.tmps.getD 127 undef, A.tmps.getD 128 undef, A.tmps.getD 129 undef, A.tmps.getD 130 undef, A.tmps.getD 131 undef, A.tmps.getD 132 undef, A.tmps.getD 133 undef, A.tmps.getD 134 undef, A.tmps.getD 135 undef, A.tmps.getD 136 undef, A.tmps.getD 137 undef, A.tmps.getD 138 undef, A.tmps.getD 139 undef, A.tmps.getD 140 undef, A.tmps.getD 141 undef, A.tmps.getD 142 undef, A.tmps.getD 143 undef, A.tmps.getD 144 undef, A.tmps.getD 145 undef, A.tmps.getD 146 undef, A.tmps.getD 147 undef, A.tmps.getD 148 undef, A.tmps.getD 149 undef, A.tmps.getD 150 undef, A.tmps.getD 151 undef, A.tmps.getD 152 undef, A.tmps.getD 153 undef, A.tmps.getD 154 undef, A.tmps.getD 155 undef, A.tmps.getD 156 undef, A.tmps.getD 157 undef, A.tmps.getD 158 undef, A.tmps.getD 159 undef, A.tmps.getD 160 undef, A.tmps.getD 161 undef, A.tmps.getD 162 undef, A.tmps.getD 163 undef, A.tmps.getD 164 undef, A.tmps.getD 165 undef, A.tmps.getD 166 undef, A.tmps.getD 167 undef, A.tmps.getD 168 undef, A.tmps.getD 169 undef, A.tmps.getD 170 undef, A.tmps.getD 171 undef, A.tmps.getD 172 undef, A.tmps.getD 173 undef, A.tmps.getD 174 undef, A.tmps.getD 175 undef, A.tmps.getD 176 undef, A.tmps.getD 177 undef, A.tmps.getD 178 undef, A.tmps.getD 179 undef, A.tmps.getD 180 undef, A.tmps.getD 181 undef, A.tmps.getD 182 undef, A.tmps.getD 183 undef, A.tmps.getD 184 undef], []⟩) : boI w0 n g F L c2 c14 c15 m A w :=
  ⟨fun k => A.tmps.getD k undef, v,  h1, hf, h⟩

set_option maxRecDepth 1000000 in
set_option maxHeartbeats 4000000 in
theorem bo_go {w0 : World} {n g : Nat} {F : Nat → Prop} {L : List (Nat × Nat)} {c2 c14 c15 : Value} {m : Nat} {U : Nat → Value} {w : World} {v : Value} (hn : n ≤ 60) (hm : m < n) (hf : BW w0 n g F L w v (triL L m)) (K : Act → World → Prop) (Q : Exit → Act → World → Prop) (hK : ∀ A w', boI w0 n g F L c2 c14 c15 (m + 1) A w' → K A w') :
    (loopAt Try.f5 1).wp Try.prog (Exit.then K Q) ⟨#[.int .i64 (n : Nat), U 1, c2, U 3, U 4, U 5, U 6, U 7, U 8, U 9, U 10, .pointer (some ⟨g, 0, none⟩), U 12, U 13, c14, c15, v, .int .i64 (m : Nat), U 18, U 19, U 20, U 21, U 22, U 23, U 24, U 25, U 26, U 27, U 28, U 29, U 30, U 31, U 32, U 33, U 34, U 35, U 36, U 37, U 38, U 39, U 40, U 41, U 42, U 43, U 44, U 45, U 46, U 47, U 48, U 49, U 50, U 51, U 52, U 53, U 54, U 55, U 56, U 57, U 58, U 59, U 60, U 61, U 62, U 63, U 64, U 65, U 66, U 67, U 68, U 69, U 70, U 71, U 72, U 73, U 74, U 75, U 76, U 77, U 78, U 79, U 80, U 81, U 82, U 83, U 84, U 85, U 86, U 87, U 88, U 89, U 90, U 91, U 92, U 93, U 94, U 95, U 96, U 97, U 98, U 99, U 100, U 101, U 102, U 103, U 104, U 105, U 106, U 107, U 108, U 109, U 110, U 111, U 112, U 113, U 114, U 115, U 116, U 117, U 118, U 119, U 120, U 121, U 122, U 123, U 124, U 125, U 126, U 127, U 128, U 129, U 130, U 131, U 132, U 133, U 134, U 135, U 136, U 137, U 138, U 139, U 140, U 141, U 142, U 143, U 144, U 145, U 146, U 147, U 148, U 149, U 150, U 151, U 152, U 153, U 154, U 155, U 156, U 157, U 158, U 159, U 160, U 161, U 162, U 163, U 164, U 165, U 166, U 167, U 168, U 169, U 170, U 171, U 172, U 173, U 174, U 175, U 176, U 177, U 178, U 179, U 180, U 181, U 182, U 183, U 184], []⟩ w := by
  have HK : Hid (∀ A w', boI w0 n g F L c2 c14 c15 (m + 1) A w' → K A w') := hK
  clear hK
  have HF : Hid (BW w0 n g F L w v (triL L m ++ rowL L m 0)) := by
    show BW _ _ _ _ _ _ _ _
    have : triL L m ++ rowL L m 0 = triL L m := List.append_nil _
    rw [this]
    exact hf
  clear hf
  conv => arg 2; whnf
  go_wp2_with fail
  refine bi_loop hm hn HF.out _ ?_ rfl
  clear HF
  rintro A w1 ⟨U, v, _, hf, rfl⟩
  have HF : Hid (BW w0 n g F L w1 v (triL L (m + 1))) := hf
  clear hf
  go_wp2_with fail
  rw [show ((m : Int) + 1) = ((m + 1 : Nat) : Int) from by omega]
  exact HK.out _ _ (bo_intro _ (by omega) HF.out rfl)

set_option maxRecDepth 1000000 in
set_option maxHeartbeats 4000000 in
theorem bo_end {w0 : World} {n g : Nat} {F : Nat → Prop} {L : List (Nat × Nat)} {c2 c14 c15 : Value} {m : Nat} {U : Nat → Value} {w : World} {v : Value} (hn : n ≤ 60) (hend : m = n) (hf : BW w0 n g F L w v (triL L m)) (K : Act → World → Prop) (Q : Exit → Act → World → Prop) (hQ : ∀ A w', boI w0 n g F L c2 c14 c15 (n) A w' → Q (.exit 2) A w') :
    (loopAt Try.f5 1).wp Try.prog (Exit.then K Q) ⟨#[.int .i64 (n : Nat), U 1, c2, U 3, U 4, U 5, U 6, U 7, U 8, U 9, U 10, .pointer (some ⟨g, 0, none⟩), U 12, U 13, c14, c15, v, .int .i64 (m : Nat), U 18, U 19, U 20, U 21, U 22, U 23, U 24, U 25, U 26, U 27, U 28, U 29, U 30, U 31, U 32, U 33, U 34, U 35, U 36, U 37, U 38, U 39, U 40, U 41, U 42, U 43, U 44, U 45, U 46, U 47, U 48, U 49, U 50, U 51, U 52, U 53, U 54, U 55, U 56, U 57, U 58, U 59, U 60, U 61, U 62, U 63, U 64, U 65, U 66, U 67, U 68, U 69, U 70, U 71, U 72, U 73, U 74, U 75, U 76, U 77, U 78, U 79, U 80, U 81, U 82, U 83, U 84, U 85, U 86, U 87, U 88, U 89, U 90, U 91, U 92, U 93, U 94, U 95, U 96, U 97, U 98, U 99, U 100, U 101, U 102, U 103, U 104, U 105, U 106, U 107, U 108, U 109, U 110, U 111, U 112, U 113, U 114, U 115, U 116, U 117, U 118, U 119, U 120, U 121, U 122, U 123, U 124, U 125, U 126, U 127, U 128, U 129, U 130, U 131, U 132, U 133, U 134, U 135, U 136, U 137, U 138, U 139, U 140, U 141, U 142, U 143, U 144, U 145, U 146, U 147, U 148, U 149, U 150, U 151, U 152, U 153, U 154, U 155, U 156, U 157, U 158, U 159, U 160, U 161, U 162, U 163, U 164, U 165, U 166, U 167, U 168, U 169, U 170, U 171, U 172, U 173, U 174, U 175, U 176, U 177, U 178, U 179, U 180, U 181, U 182, U 183, U 184], []⟩ w := by
  have HQ : Hid (∀ A w', boI w0 n g F L c2 c14 c15 m A w' → Q (.exit 2) A w') := fun A w' h => hQ A w' (by rw [hend] at h; exact h)
  have h1 : m ≤ n := by omega
  have HF : Hid (BW w0 n g F L w v (triL L m)) := hf
  clear hQ hf
  have hnl : ¬ m < n := by omega
  clear hend
  conv => arg 2; whnf
  go_wp2_with fail
  exact HQ.out _ _ (bo_intro _ h1 HF.out rfl)

/-- How many rounds are still to come, at most. -/
def bo_togo (B : Nat) (A : Act) (_w : World) : Nat := B - (intOf (A.tmps.getD 17 undef)).toNat

set_option maxRecDepth 1000000 in
theorem bo_togo_is {w0 : World} {n g : Nat} {F : Nat → Prop} {L : List (Nat × Nat)} {c2 c14 c15 : Value} {m : Nat} {A : Act} {w : World} (h : boI w0 n g F L c2 c14 c15 m A w) : bo_togo (n) A w = n - m := by
  obtain ⟨U, v,  _, _, rfl⟩ := h
  show n - ((m : Nat) : Int).toNat = n - m
  omega

theorem bo_round {w0 : World} {n g : Nat} {F : Nat → Prop} {L : List (Nat × Nat)} {c2 c14 c15 : Value} (hn : n ≤ 60) (Q : Exit → Act → World → Prop) (hQ : ∀ A w', boI w0 n g F L c2 c14 c15 (n) A w' → Q (.exit 2) A w') (A : Act) (w : World) (h : ∃ m, boI w0 n g F L c2 c14 c15 m A w) :
    (loopAt Try.f5 1).wp Try.prog (Exit.then (fun A' w' => (∃ m, boI w0 n g F L c2 c14 c15 m A' w') ∧ bo_togo (n) A' w' < bo_togo (n) A w) Q) A w := by
  obtain ⟨m, hI⟩ := h
  have ht := bo_togo_is hI
  obtain ⟨U, v,  h1, hf, rfl⟩ := hI
  by_cases hend : m = n
  · exact bo_end hn hend hf _ _ hQ
  · refine bo_go hn (by omega) hf _ _ fun A' w' h' => ⟨⟨m + 1, h'⟩, ?_⟩
    rw [bo_togo_is h', ht]
    omega

set_option maxRecDepth 1000000 in
theorem bo_loop {w0 : World} {n g : Nat} {F : Nat → Prop} {L : List (Nat × Nat)} {c2 c14 c15 : Value} (hn : n ≤ 60) {w : World} {v : Value} (hf : BW w0 n g F L w v (triL L 0)) (Q : Exit → Act → World → Prop) (hQ : ∀ A w', boI w0 n g F L c2 c14 c15 (n) A w' → Q (.exit 2) A w') {A : Act} (hA : A = ⟨#[.int .i64 (n : Nat), A.tmps.getD 1 undef, c2, A.tmps.getD 3 undef, A.tmps.getD 4 undef, A.tmps.getD 5 undef, A.tmps.getD 6 undef, A.tmps.getD 7 undef, A.tmps.getD 8 undef, A.tmps.getD 9 undef, A.tmps.getD 10 undef, .pointer (some ⟨g, 0, none⟩), A.tmps.getD 12 undef, A.tmps.getD 13 undef, c14, c15, v, .int .i64 0, A.tmps.getD 18 undef, A.tmps.getD 19 undef, A.tmps.getD 20 undef, A.tmps.getD 21 undef, A.tmps.getD 22 undef, A.tmps.getD 23 undef, A.tmps.getD 24 undef, A.tmps.getD 25 undef, A.tmps.getD 26 undef, A.tmps.getD 27 undef, A.tmps.getD 28 undef, A.tmps.getD 29 undef, A.tmps.getD 30 undef, A.tmps.getD 31 undef, A.tmps.getD 32 undef, A.tmps.getD 33 undef, A.tmps.getD 34 undef, A.tmps.getD 35 undef, A.tmps.getD 36 undef, A.tmps.getD 37 undef, A.tmps.getD 38 undef, A.tmps.getD 39 undef, A.tmps.getD 40 undef, A.tmps.getD 41 undef, A.tmps.getD 42 undef, A.tmps.getD 43 undef, A.tmps.getD 44 undef, A.tmps.getD 45 undef, A.tmps.getD 46 undef, A.tmps.getD 47 undef, A.tmps.getD 48 undef, A.tmps.getD 49 undef, A.tmps.getD 50 undef, A.tmps.getD 51 undef, A.tmps.getD 52 undef, A.tmps.getD 53 undef, A.tmps.getD 54 undef, A.tmps.getD 55 undef, A.tmps.getD 56 undef, A.tmps.getD 57 undef, A.tmps.getD 58 undef, A.tmps.getD 59 undef, A.tmps.getD 60 undef, A.tmps.getD 61 undef, A.tmps.getD 62 undef, A.tmps.getD 63 undef, A.tmps.getD 64 undef, A.tmps.getD 65 undef, A.tmps.getD 66 undef, A.tmps.getD 67 undef, A.tmps.getD 68 undef, A.tmps.getD 69 undef, A.tmps.getD 70 undef, A.tmps.getD 71 undef, A.tmps.getD 72 undef, A.tmps.getD 73 undef, A.tmps.getD 74 undef, A.tmps.getD 75 undef, A.tmps.getD 76 undef, A.tmps.getD 77 undef, A.tmps.getD 78 undef, A.tmps.getD 79 undef, A.tmps.getD 80 undef, A.tmps.getD 81 undef, A.tmps.getD 82 undef, A.tmps.getD 83 undef, A.tmps.getD 84 undef, A.tmps.getD 85 undef, A.tmps.getD 86 undef, A.tmps.getD 87 undef, A.tmps.getD 88 undef, A.tmps.getD 89 undef, A.tmps.getD 90 undef, A.tmps.getD 91 undef, A.tmps.getD 92 undef, A.tmps.getD 93 undef, A.tmps.getD 94 undef, A.tmps.getD 95 undef, A.tmps.getD 96 undef, A.tmps.getD 97 undef, A.tmps.getD 98 undef, A.tmps.getD 99 undef, A.tmps.getD 100 undef, A.tmps.getD 101 undef, A.tmps.getD 102 undef, A.tmps.getD 103 undef, A.tmps.getD 104 undef, A.tmps.getD 105 undef, A.tmps.getD 106 undef, A.tmps.getD 107 undef, A.tmps.getD 108 undef, A.tmps.getD 109 undef, A.tmps.getD 110 undef, A.tmps.getD 111 undef, A.tmps.getD 112 undef, A.tmps.getD 113 undef, A.tmps.getD 114 undef, A.tmps.getD 115 undef, A.tmps.getD 116 undef, A.tmps.getD 117 undef, A.tmps.getD 118 undef, A.tmps.getD 119 undef, A.tmps.getD 120 undef, A.tmps.getD 121 undef, A.tmps.getD 122 undef, A.tmps.getD 123 undef, A.tmps.getD 124 undef, A.tmps.getD 125 undef, A.tmps.getD 126 undef, A.tmps.getD 127 undef, A.tmps.getD 128 undef, A.tmps.getD 129 undef, A.tmps.getD 130 undef, A.tmps.getD 131 undef, A.tmps.getD 132 undef, A.tmps.getD 133 undef, A.tmps.getD 134 undef, A.tmps.getD 135 undef, A.tmps.getD 136 undef, A.tmps.getD 137 undef, A.tmps.getD 138 undef, A.tmps.getD 139 undef, A.tmps.getD 140 undef, A.tmps.getD 141 undef, A.tmps.getD 142 undef, A.tmps.getD 143 undef, A.tmps.getD 144 undef, A.tmps.getD 145 undef, A.tmps.getD 146 undef, A.tmps.getD 147 undef, A.tmps.getD 148 undef, A.tmps.getD 149 undef, A.tmps.getD 150 undef, A.tmps.getD 151 undef, A.tmps.getD 152 undef, A.tmps.getD 153 undef, A.tmps.getD 154 undef, A.tmps.getD 155 undef, A.tmps.getD 156 undef, A.tmps.getD 157 undef, A.tmps.getD 158 undef, A.tmps.getD 159 undef, A.tmps.getD 160 undef, A.tmps.getD 161 undef, A.tmps.getD 162 undef, A.tmps.getD 163 undef, A.tmps.getD 164 undef, A.tmps.getD 165 undef, A.tmps.getD 166 undef, A.tmps.getD 167 undef, A.tmps.getD 168 undef, A.tmps.getD 169 undef, A.tmps.getD 170 undef, A.tmps.getD 171 undef, A.tmps.getD 172 undef, A.tmps.getD 173 undef, A.tmps.getD 174 undef, A.tmps.getD 175 undef, A.tmps.getD 176 undef, A.tmps.getD 177 undef, A.tmps.getD 178 undef, A.tmps.getD 179 undef, A.tmps.getD 180 undef, A.tmps.getD 181 undef, A.tmps.getD 182 undef, A.tmps.getD 183 undef, A.tmps.getD 184 undef], []⟩) : (Code.loop (loopAt Try.f5 1)).wp Try.prog Q A w :=
  wp_loop (fun A w => ∃ m, boI w0 n g F L c2 c14 c15 m A w) (bo_togo (n)) ⟨0, bo_intro _ (Nat.zero_le _) hf hA⟩ (fun A w' h => bo_round hn Q hQ A w' h)

end Go.Proofs.Ytfnidfbogkfaeaa
