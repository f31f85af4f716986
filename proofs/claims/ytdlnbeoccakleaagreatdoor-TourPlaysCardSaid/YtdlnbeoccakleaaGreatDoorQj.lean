/-
  TourPlays: the loop that gathers a part.
-/
import Derived.Test.YtdlnbeoccakleaaGreatDoorQe
namespace Go.Proofs.YtdlnbeoccakleaaGreatDoor
open Go.RowKit Go.Deep
set_option linter.unusedVariables false

theorem nodes_succ (m : Nat) (p : Nat → Nat) (r : Nat) : nodesOf (m + 1) p r = nodesOf m p r ++ if p m = r then [m] else [] := by
  unfold nodesOf
  rw [List.range_succ, List.filter_append]
  congr 1
  by_cases h : p m = r
  · simp [h]
  · simp [h]


set_option maxRecDepth 1000000 in
/-- Where the loop stands. -/
def wlI (wS : World) (L : Pl) (p : Nat → Nat) (a al : Option Addr) (N c la ca mm gs kp cp r : Nat) (m : Nat) (A : Act) (w : World) : Prop :=
  ∃ (U : Nat → Value) (v : Value), m ≤ L.n ∧ (Below wS.heap.size wS w ∧ w.ownsRow wS.heap.size 3 1 v (nodesOf m p r).length ((nodesOf m p r).map fun i => Value.int .i64 ((i : Nat) : Int))) ∧ A = ⟨#[.int .i64 (L.n : Nat), .slice al la ca, U 2, U 3, U 4, U 5, .pointer (some ⟨L.g, 0, none⟩), U 7, .bool true, .slice a N c, .int .i64 (mm : Nat), .pointer (some ⟨gs, 0, none⟩), U 12, U 13, .slice (some ⟨kp, 0, none⟩) L.n cp, .int .i64 0, U 16, U 17, U 18, U 19, v, .int .i64 (m : Nat), U 22, U 23, U 24, U 25, U 26, U 27, U 28, U 29, U 30, U 31, U 32, U 33, U 34, U 35, U 36, U 37, U 38, U 39, U 40, U 41, U 42, U 43, U 44, U 45, U 46, U 47, U 48, U 49, U 50, U 51, U 52, U 53, U 54, U 55, U 56, U 57, U 58, U 59, U 60, U 61, U 62, U 63, U 64, U 65, U 66, U 67, U 68, U 69, U 70, U 71, U 72, U 73, U 74, U 75, U 76, U 77, U 78, U 79, U 80, U 81, U 82, U 83, U 84, U 85, U 86, U 87, U 88, U 89, U 90, U 91, U 92, U 93, U 94, U 95, U 96, U 97, U 98, U 99, U 100, U 101, U 102, U 103, U 104, U 105, U 106, U 107, U 108, U 109, U 110, U 111, U 112, U 113, U 114, U 115, U 116, U 117, U 118, U 119, U 120, U 121, U 122, U 123, U 124, U 125, U 126, U 127, U 128, U 129, U 130, U 131, U 132, U 133, U 134, U 135, U 136, U 137, U 138, U 139, U 140, U 141, U 142, U 143, U 144, U 145, U 146, U 147, U 148, U 149, U 150, U 151, U 152, U 153, U 154, U 155, U 156, U 157, U 158, U 159, U 160, U 161, U 162, U 163, U 164, U 165, U 166, U 167, U 168, U 169, U 170, U 171, U 172, U 173, U 174, U 175, U 176, U 177, U 178, U 179, U 180, U 181, U 182, U 183, U 184, U 185, U 186, U 187, U 188, U 189, U 190, U 191, U 192, U 193, U 194, U 195, U 196, U 197, U 198, U 199, U 200, U 201, U 202, U 203, U 204, U 205, U 206, U 207, U 208, U 209, U 210, U 211, U 212, U 213, U 214, U 215, U 216, U 217, U 218, U 219, U 220, U 221, U 222, U 223, U 224, U 225, U 226, U 227, U 228, U 229, U 230, U 231, U 232, U 233, U 234, U 235, U 236, U 237, U 238, U 239, U 240, U 241, U 242, U 243, U 244], []⟩

set_option maxRecDepth 1000000 in
theorem wl_intro {wS : World} {L : Pl} {p : Nat → Nat} {a al : Option Addr} {N c la ca mm gs kp cp r : Nat} {m : Nat} {A : Act} {w : World} (v : Value) (h1 : m ≤ L.n) (hf : (Below wS.heap.size wS w ∧ w.ownsRow wS.heap.size 3 1 v (nodesOf m p r).length ((nodesOf m p r).map fun i => Value.int .i64 ((i : Nat) : Int)))) (h : A = ⟨#[.int .i64 (L.n : Nat), .slice al la ca, A.tmps.getD 2 undef, A.tmps.getD 3 undef, A.tmps.getD 4 undef, A.tmps.getD 5 undef, .pointer (some ⟨L.g, 0, none⟩), A.tmps.getD 7 undef, .bool true, .slice a N c, .int .i64 (mm : Nat), .pointer (some ⟨gs, 0, none⟩), A.tmps.getD 12 undef, A.tmps.getD 13 undef, .slice (some ⟨kp, 0, none⟩) L.n cp, .int .i64 0, A.tmps.getD 16 undef, A.tmps.getD 17 undef, A.tmps.getD 18 undef, A.tmps.getD 19 undef, v, .int .i64 (m : Nat), A.tmps.getD 22 undef, A.tmps.getD 23 undef, A.tmps.getD 24 undef, A.tmps.getD 25 undef, A.tmps.getD 26 undef, A.tmps.getD 27 undef, A.tmps.getD 28 undef, A.tmps.getD 29 undef, A.tmps.getD 30 undef, A.tmps.getD 31 undef, A.tmps.getD 32 undef, A.tmps.getD 33 undef, A.tmps.getD 34 undef, A.tmps.getD 35 undef, A.tmps.getD 36 undef, A.tmps.getD 37 undef, A.tmps.getD 38 undef, A.tmps.getD 39 undef, A.tmps.getD 40 undef, A.tmps.getD 41 undef, A.tmps.getD 42 undef, A.tmps.getD 43 undef, A.tmps.getD 44 undef, A.tmps.getD 45 undef, A.tmps.getD 46 undef, A.tmps.getD 47 undef, A.tmps.getD 48 undef, A.tmps.getD 49 undef, A.tmps.getD 50 undef, A.tmps.getD 51 undef, A.tmps.getD 52 undef, A.tmps.getD 53 undef, A.tmps.getD 54 undef, A.tmps.getD 55 undef, A.tmps.getD 56 undef, A.tmps.getD 57 undef, A.tmps.getD 58 undef, A.tmps.getD 59 undef, A.tmps.getD 60 undef, A.tmps.getD 61 undef, A.tmps.getD 62 undef, A.tmps.getD 63 undef, A.tmps.getD 64 undef, A.tmps.getD 65 undef, A.tmps.getD 66 undef, A.tmps.getD 67 undef, A.tmps.getD 68 undef, A.tmps.getD 69 undef, A.tmps.getD 70 undef, A.tmps.getD 71 undef, A.tmps.getD 72 undef, A.tmps.getD 73 undef, A.tmps.getD 74 undef, A.tmps.getD 75 undef, A.tmps.getD 76 undef, A.tmps.getD 77 undef, A.tmps.getD 78 undef, A.tmps.getD 79 undef, A.tmps.getD 80 undef, A.tmps.getD 81 undef, A.tmps.getD 82 undef, A.tmps.getD 83 undef, A.tmps.getD 84 undef, A.tmps.getD 85 undef, A.tmps.getD 86 undef, A.tmps.getD 87 undef, A.tmps.getD 88 undef, A.tmps.getD 89 undef, A.tmps.getD 90 undef, A.tmps.getD 91 undef, A.tmps.getD 92 undef, A.tmps.getD 93 undef, A.tmps.getD 94 undef, A.tmps.getD 95 undef, A.tmps.getD 96 undef, A.tmps.getD 97 undef, A.tmps.getD 98 undef, A.tmps.getD 99 undef, A.tmps.getD 100 undef, A.tmps.getD 101 undef, A.tmps.getD 102 undef, A.tmps.getD 103 undef, A.tmps.getD 104 undef, A.tmps.getD 105 undef, A.tmps.getD 106 undef, A.tmps.getD 107 undef, A.tmps.getD 108 undef, A.tmps.getD 109 undef, A.tmps.getD 110 undef, A.tmps.getD 111 undef, A.tmps.getD 112 undef, A.tmps.getD 113 undef, A.tmps.getD 114 undef, A.tmps.getD 115 undef, A.tmps.getD 116 undef, A.tmps.getD 117 undef, A.tmps.getD 118 undef, A.tmps.getD 119 undef, A.tmps.getD 120 undef, A.tmps.getD 121 undef, A.tmps.getD 122 undef, A.tmps.getD 123 undef, A.tmps.getD 124 undef, A.tmps.getD 125 undef, A.tmps.getD 126 undef, A.tmps.getD 127 undef, A.tmps.getD 128 undef, A.tmps.getD 129 undef, A.tmps.getD 130 undef, A.tmps.getD 131 undef, A.tmps.getD 132 undef, A.tmps.getD 133 undef, A.tmps.getD 134 undef, A.tmps.getD 135 undef, A.tmps.getD 136 undef, A.tmps.getD 137 undef, A.tmps.getD 138 undef, A.tmps.getD 139 undef, A.tmps.getD 140 undef, A.tmps.getD 141 undef, A.tmps.getD 142 undef, A.tmps.getD 143 undef, A.tmps.getD 144 undef, A.tmps.getD 145 undef, A.tmps.getD 146 undef, A.tmps.getD 147 undef, A.tmps.getD 148 undef, A.tmps.getD 149 undef, A.tmps.getD 150 undef, A.tmps.getD 151 undef, A.tmps.getD 152 undef, A.tmps.getD 153 undef, A.tmps.getD 154 undef, A.tmps.getD 155 undef, A.tmps.getD 156 undef, A.tmps.getD 157 undef, A.tmps.getD 158 undef, A.tmps.getD 159 undef, A.tmps.getD 160 undef, A.tmps.getD 161 undef, A.tmps.getD 162 undef, A.tmps.getD 163 undef, A.tmps.getD 164 undef, A.tmps.getD 165 undef, A.tmps.getD 166 undef, A.tmps.getD 167 undef, A.tmps.getD 168 undef, A.tmps.getD 169 undef, A.tmps.getD 170 undef, A.tmps.getD 171 undef, A.tmps.getD 172 undef, A.tmps.getD 173 undef, A.tmps.getD 174 undef, A.tmps.getD 175 undef, A.tmps.getD 176 undef, A.tmps.getD 177 undef, A.tmps.getD 178 undef, A.tmps.getD 179 undef, A.tmps.getD 180 undef, A.tmps.getD 181 undef, A.tmps.getD 182 undef, A.tmps.getD 183 undef, A.tmps.getD 184 undef, A.tmps.getD 185 undef, A.tmps.getD 186 undef, A.tmps.getD 187 undef, A.tmps.getD 188 undef, A.tmps.getD 189 undef, A.tmps.getD 190 undef, A.tmps.getD 191 undef, A.tmps.getD 192 undef, A.tmps.getD 193 undef, A.tmps.getD 194 undef, A.tmps.getD 195 undef, A.tmps.getD 196 undef, A.tmps.getD 197 undef, A.tmps.getD 198 undef, A.tmps.getD 199 undef, A.tmps.getD 200 undef, A.tmps.getD 201 undef, A.tmps.getD 202 undef, A.tmps.getD 203 undef, A.tmps.getD 204 undef, A.tmps.getD 205 undef, A.tmps.getD 206 undef, A.tmps.getD 207 undef, A.tmps.getD 208 undef, A.tmps.getD 209 undef, A.tmps.getD 210 undef, A.tmps.getD 211 undef, A.tmps.getD 212 undef, A.tmps.getD 213 undef, A.tmps.getD 214 undef, A.tmps.getD 215 undef, A.tmps.getD 216 undef, A.tmps.getD 217 undef, A.tmps.getD 218 undef, A.tmps.getD 219 undef, A.tmps.getD 220 undef, A.tmps.getD 221 undef, A.tmps.getD 222 undef, A.tmps.getD 223 undef, A.tmps.getD 224 undef, A.tmps.getD 225 undef, A.tmps.getD 226 undef, A.tmps.getD 227 undef, A.tmps.getD 228 undef, A.tmps.getD 229 undef, A.tmps.getD 230 undef, A.tmps.getD 231 undef, A.tmps.getD 232 undef, A.tmps.getD 233 undef, A.tmps.getD 234 undef, A.tmps.getD 235 undef, A.tmps.getD 236 undef, A.tmps.getD 237 undef, A.tmps.getD 238 undef, A.tmps.getD 239 undef, A.tmps.getD 240 undef, A.tmps.getD 241 undef, A.tmps.getD 242 undef, A.tmps.getD 243 undef, A.tmps.getD 244 undef], []⟩) : wlI wS L p a al N c la ca mm gs kp cp r m A w :=
  ⟨fun k => A.tmps.getD k undef, v,  h1, hf, h⟩

set_option maxRecDepth 1000000 in
set_option maxHeartbeats 4000000 in
theorem wl_go {wS : World} {L : Pl} {p : Nat → Nat} {a al : Option Addr} {N c la ca mm gs kp cp r : Nat} {m : Nat} {U : Nat → Value} {w : World} {v : Value} (u : Nat) (hu : u < L.n) (hn : L.n ≤ 60) (hr : p u = r) (hp : ∀ i, i < L.n → wS.cell? ⟨kp, i, none⟩ = some (.int .i64 (p i : Nat))) (hs1 : wS.cell? ⟨gs, 1, none⟩ = some (.int .i64 (u : Nat))) (hm : m < L.n) (hf : (Below wS.heap.size wS w ∧ w.ownsRow wS.heap.size 3 1 v (nodesOf m p r).length ((nodesOf m p r).map fun i => Value.int .i64 ((i : Nat) : Int)))) (K : Act → World → Prop) (Q : Exit → Act → World → Prop) (hK : ∀ A w', wlI wS L p a al N c la ca mm gs kp cp r (m + 1) A w' → K A w') :
    (loopAt Tryz.f3 1).wp Tryz.prog (Exit.then K Q) ⟨#[.int .i64 (L.n : Nat), .slice al la ca, U 2, U 3, U 4, U 5, .pointer (some ⟨L.g, 0, none⟩), U 7, .bool true, .slice a N c, .int .i64 (mm : Nat), .pointer (some ⟨gs, 0, none⟩), U 12, U 13, .slice (some ⟨kp, 0, none⟩) L.n cp, .int .i64 0, U 16, U 17, U 18, U 19, v, .int .i64 (m : Nat), U 22, U 23, U 24, U 25, U 26, U 27, U 28, U 29, U 30, U 31, U 32, U 33, U 34, U 35, U 36, U 37, U 38, U 39, U 40, U 41, U 42, U 43, U 44, U 45, U 46, U 47, U 48, U 49, U 50, U 51, U 52, U 53, U 54, U 55, U 56, U 57, U 58, U 59, U 60, U 61, U 62, U 63, U 64, U 65, U 66, U 67, U 68, U 69, U 70, U 71, U 72, U 73, U 74, U 75, U 76, U 77, U 78, U 79, U 80, U 81, U 82, U 83, U 84, U 85, U 86, U 87, U 88, U 89, U 90, U 91, U 92, U 93, U 94, U 95, U 96, U 97, U 98, U 99, U 100, U 101, U 102, U 103, U 104, U 105, U 106, U 107, U 108, U 109, U 110, U 111, U 112, U 113, U 114, U 115, U 116, U 117, U 118, U 119, U 120, U 121, U 122, U 123, U 124, U 125, U 126, U 127, U 128, U 129, U 130, U 131, U 132, U 133, U 134, U 135, U 136, U 137, U 138, U 139, U 140, U 141, U 142, U 143, U 144, U 145, U 146, U 147, U 148, U 149, U 150, U 151, U 152, U 153, U 154, U 155, U 156, U 157, U 158, U 159, U 160, U 161, U 162, U 163, U 164, U 165, U 166, U 167, U 168, U 169, U 170, U 171, U 172, U 173, U 174, U 175, U 176, U 177, U 178, U 179, U 180, U 181, U 182, U 183, U 184, U 185, U 186, U 187, U 188, U 189, U 190, U 191, U 192, U 193, U 194, U 195, U 196, U 197, U 198, U 199, U 200, U 201, U 202, U 203, U 204, U 205, U 206, U 207, U 208, U 209, U 210, U 211, U 212, U 213, U 214, U 215, U 216, U 217, U 218, U 219, U 220, U 221, U 222, U 223, U 224, U 225, U 226, U 227, U 228, U 229, U 230, U 231, U 232, U 233, U 234, U 235, U 236, U 237, U 238, U 239, U 240, U 241, U 242, U 243, U 244], []⟩ w := by
  have HK : Hid (∀ A w', wlI wS L p a al N c la ca mm gs kp cp r (m + 1) A w' → K A w') := hK
  clear hK
  obtain ⟨hb, hown⟩ := hf
  obtain ⟨i0, hi0, hz0, hz1, hz2⟩ := info_parts Tryz.infoInt
  have k1 := cell_keep hb (hp m hm)
  have k2 := cell_keep hb (hp u hu)
  have k3 := cell_keep hb hs1
  have hbs := hb.size
  have hln : (nodesOf m p r).length ≤ m := by
    have := (nodesOf_nodup m p r).length_le_of_subset (l₂ := List.range m) (fun x hx => List.mem_range.2 (mem_nodesOf.1 hx).1)
    simpa using this
  have hsu := nodes_succ m p r
  obtain ⟨q, hq⟩ : ∃ q, p m = q := ⟨_, rfl⟩
  rw [hq] at k1 hsu
  rw [hr] at k2
  have HB : Hid (Below wS.heap.size wS w) := hb
  have HO : Hid (w.ownsRow wS.heap.size 3 1 v (nodesOf m p r).length ((nodesOf m p r).map fun i => Value.int .i64 ((i : Nat) : Int))) := hown
  have HS : Hid (nodesOf (m + 1) p r = nodesOf m p r ++ if q = r then [m] else []) := hsu
  generalize hxs : nodesOf m p r = xs at *
  generalize hM : xs.length = M at *
  have HM : Hid (xs.length = M) := hM
  have j0 : (0 : Int) ≤ (m : Int) := by omega
  have j1 : (m : Int) < (L.n : Int) := by omega
  have j2 : (0 : Int) ≤ (u : Int) := by omega
  have j3 : (u : Int) < (L.n : Int) := by omega
  clear hb hown hp hs1 hr hq hsu hxs hM
  by_cases hpe : q = r
  · have t1 : (q == r) = true := by simpa using hpe
    have t2 : ((q : Int) == (r : Int)) = true := by simp; omega
    have HE : Hid (nodesOf (m + 1) p r = xs ++ [m]) := show _ = _ by rw [HS.out, if_pos hpe]
    clear hpe HS
    conv => arg 2; whnf
    go_wp2_with fail
    go_quiet (fail)
    obtain ⟨wd, hwd⟩ : ∃ wd, w.drewN nq = wd := ⟨_, rfl⟩
    have HBd : Hid (Below wS.heap.size wS wd) := by rw [← hwd]; exact HB.out.trans ((below_drewN rfl).mono hbs)
    have HOd : Hid (wd.ownsRow wS.heap.size 3 1 v M (xs.map fun i => Value.int .i64 ((i : Nat) : Int))) := by rw [← hwd]; exact HO.out
    have hds : wS.heap.size ≤ wd.heap.size := HBd.out.size
    rw [hwd]
    clear hwd k1 k2 k3 hbs
    go_wp2_with (first
      | (at_builtin; refine wpList_append_lies _ rfl (.tmp 194) (.tmp 196) 32 rfl wS.heap.size 3 i0 (.int .i64 0) 1 8 Tryz.underlying32 hi0 hz0 hz1 hz2 rfl (by decide) v M (xs.map fun i => Value.int .i64 ((i : Nat) : Int)) rfl (HOd.out.alloc _) ⟨wd.heap.size, 0, none⟩ 1 1 [.int .i64 (m : Int)] rfl rfl ?c1 ?c2 (by decide) ?c3 ?c4 ?c5 _ rfl ?_))
    case c1 => exact cell_one_new _ _ _
    case c2 => intro u hu; simp at hu; subst hu; rfl
    case c3 => unfold maxLen; omega
    case c4 => omega
    case c5 => simp; omega
    intro g1 cap1 w2 hown hgrow hat hlt2
    have hb2 : Below wS.heap.size wS w2 := (HBd.out.alloc hds _).grown hgrow (by simp; omega) (fun k e => (HOd.out.lt k e).1)
    have HR : Hid (Below wS.heap.size wS w2 ∧ w2.ownsRow wS.heap.size 3 1 (.slice (some ⟨g1, 0, none⟩) (M + 1) cap1) (nodesOf (m + 1) p r).length ((nodesOf (m + 1) p r).map fun i => Value.int .i64 ((i : Nat) : Int))) := by
      refine ⟨hb2, ?_⟩
      rw [HE.out, List.map_append, List.length_append, HM.out]
      exact hown
    clear hown hgrow hat hlt2 hb2
    go_wp2_with fail
    rw [show ((m : Int) + 1) = ((m + 1 : Nat) : Int) from by omega]
    exact HK.out _ _ (wl_intro _ (by omega) HR.out rfl)
  · have t1 : (q == r) = false := by rw [beq_eq_false_iff_ne]; exact hpe
    have t2 : ((q : Int) == (r : Int)) = false := by rw [beq_eq_false_iff_ne]; omega
    have HE : Hid (nodesOf (m + 1) p r = xs) := show _ = _ by rw [HS.out, if_neg hpe, List.append_nil]
    clear hpe HS
    conv => arg 2; whnf
    go_wp2_with fail
    go_quiet (fail)
    obtain ⟨wd, hwd⟩ : ∃ wd, w.drewN nq = wd := ⟨_, rfl⟩
    have HR : Hid (Below wS.heap.size wS wd ∧ wd.ownsRow wS.heap.size 3 1 v (nodesOf (m + 1) p r).length ((nodesOf (m + 1) p r).map fun i => Value.int .i64 ((i : Nat) : Int))) := by
      rw [HE.out, HM.out, ← hwd]
      exact ⟨HB.out.trans ((below_drewN rfl).mono hbs), HO.out⟩
    rw [hwd]
    clear hwd k1 k2 k3
    go_wp2_with fail
    rw [show ((m : Int) + 1) = ((m + 1 : Nat) : Int) from by omega]
    exact HK.out _ _ (wl_intro _ (by omega) HR.out rfl)

set_option maxRecDepth 1000000 in
set_option maxHeartbeats 4000000 in
theorem wl_end {wS : World} {L : Pl} {p : Nat → Nat} {a al : Option Addr} {N c la ca mm gs kp cp r : Nat} {m : Nat} {U : Nat → Value} {w : World} {v : Value} (u : Nat) (hu : u < L.n) (hn : L.n ≤ 60) (hr : p u = r) (hp : ∀ i, i < L.n → wS.cell? ⟨kp, i, none⟩ = some (.int .i64 (p i : Nat))) (hs1 : wS.cell? ⟨gs, 1, none⟩ = some (.int .i64 (u : Nat))) (hend : m = L.n) (hf : (Below wS.heap.size wS w ∧ w.ownsRow wS.heap.size 3 1 v (nodesOf m p r).length ((nodesOf m p r).map fun i => Value.int .i64 ((i : Nat) : Int)))) (K : Act → World → Prop) (Q : Exit → Act → World → Prop) (hQ : ∀ A w', wlI wS L p a al N c la ca mm gs kp cp r (L.n) A w' → Q (.exit 3) A w') :
    (loopAt Tryz.f3 1).wp Tryz.prog (Exit.then K Q) ⟨#[.int .i64 (L.n : Nat), .slice al la ca, U 2, U 3, U 4, U 5, .pointer (some ⟨L.g, 0, none⟩), U 7, .bool true, .slice a N c, .int .i64 (mm : Nat), .pointer (some ⟨gs, 0, none⟩), U 12, U 13, .slice (some ⟨kp, 0, none⟩) L.n cp, .int .i64 0, U 16, U 17, U 18, U 19, v, .int .i64 (m : Nat), U 22, U 23, U 24, U 25, U 26, U 27, U 28, U 29, U 30, U 31, U 32, U 33, U 34, U 35, U 36, U 37, U 38, U 39, U 40, U 41, U 42, U 43, U 44, U 45, U 46, U 47, U 48, U 49, U 50, U 51, U 52, U 53, U 54, U 55, U 56, U 57, U 58, U 59, U 60, U 61, U 62, U 63, U 64, U 65, U 66, U 67, U 68, U 69, U 70, U 71, U 72, U 73, U 74, U 75, U 76, U 77, U 78, U 79, U 80, U 81, U 82, U 83, U 84, U 85, U 86, U 87, U 88, U 89, U 90, U 91, U 92, U 93, U 94, U 95, U 96, U 97, U 98, U 99, U 100, U 101, U 102, U 103, U 104, U 105, U 106, U 107, U 108, U 109, U 110, U 111, U 112, U 113, U 114, U 115, U 116, U 117, U 118, U 119, U 120, U 121, U 122, U 123, U 124, U 125, U 126, U 127, U 128, U 129, U 130, U 131, U 132, U 133, U 134, U 135, U 136, U 137, U 138, U 139, U 140, U 141, U 142, U 143, U 144, U 145, U 146, U 147, U 148, U 149, U 150, U 151, U 152, U 153, U 154, U 155, U 156, U 157, U 158, U 159, U 160, U 161, U 162, U 163, U 164, U 165, U 166, U 167, U 168, U 169, U 170, U 171, U 172, U 173, U 174, U 175, U 176, U 177, U 178, U 179, U 180, U 181, U 182, U 183, U 184, U 185, U 186, U 187, U 188, U 189, U 190, U 191, U 192, U 193, U 194, U 195, U 196, U 197, U 198, U 199, U 200, U 201, U 202, U 203, U 204, U 205, U 206, U 207, U 208, U 209, U 210, U 211, U 212, U 213, U 214, U 215, U 216, U 217, U 218, U 219, U 220, U 221, U 222, U 223, U 224, U 225, U 226, U 227, U 228, U 229, U 230, U 231, U 232, U 233, U 234, U 235, U 236, U 237, U 238, U 239, U 240, U 241, U 242, U 243, U 244], []⟩ w := by
  have HQ : Hid (∀ A w', wlI wS L p a al N c la ca mm gs kp cp r m A w' → Q (.exit 3) A w') := fun A w' h => hQ A w' (by rw [hend] at h; exact h)
  have h1 : m ≤ L.n := by omega
  have HF : Hid ((Below wS.heap.size wS w ∧ w.ownsRow wS.heap.size 3 1 v (nodesOf m p r).length ((nodesOf m p r).map fun i => Value.int .i64 ((i : Nat) : Int)))) := hf
  clear hQ hf
  have hnl : ¬ m < L.n := by omega
  clear hend
  conv => arg 2; whnf
  go_wp2_with fail
  exact HQ.out _ _ (wl_intro _ h1 HF.out rfl)

/-- How many rounds are still to come, at most. -/
def wl_togo (B : Nat) (A : Act) (_w : World) : Nat := B - (intOf (A.tmps.getD 21 undef)).toNat

set_option maxRecDepth 1000000 in
theorem wl_togo_is {wS : World} {L : Pl} {p : Nat → Nat} {a al : Option Addr} {N c la ca mm gs kp cp r : Nat} {m : Nat} {A : Act} {w : World} (h : wlI wS L p a al N c la ca mm gs kp cp r m A w) : wl_togo (L.n) A w = L.n - m := by
  obtain ⟨U, v,  _, _, rfl⟩ := h
  show L.n - ((m : Nat) : Int).toNat = L.n - m
  omega

theorem wl_round {wS : World} {L : Pl} {p : Nat → Nat} {a al : Option Addr} {N c la ca mm gs kp cp r : Nat} (u : Nat) (hu : u < L.n) (hn : L.n ≤ 60) (hr : p u = r) (hp : ∀ i, i < L.n → wS.cell? ⟨kp, i, none⟩ = some (.int .i64 (p i : Nat))) (hs1 : wS.cell? ⟨gs, 1, none⟩ = some (.int .i64 (u : Nat))) (Q : Exit → Act → World → Prop) (hQ : ∀ A w', wlI wS L p a al N c la ca mm gs kp cp r (L.n) A w' → Q (.exit 3) A w') (A : Act) (w : World) (h : ∃ m, wlI wS L p a al N c la ca mm gs kp cp r m A w) :
    (loopAt Tryz.f3 1).wp Tryz.prog (Exit.then (fun A' w' => (∃ m, wlI wS L p a al N c la ca mm gs kp cp r m A' w') ∧ wl_togo (L.n) A' w' < wl_togo (L.n) A w) Q) A w := by
  obtain ⟨m, hI⟩ := h
  have ht := wl_togo_is hI
  obtain ⟨U, v,  h1, hf, rfl⟩ := hI
  by_cases hend : m = L.n
  · exact wl_end u hu hn hr hp hs1 hend hf _ _ hQ
  · refine wl_go u hu hn hr hp hs1 (by omega) hf _ _ fun A' w' h' => ⟨⟨m + 1, h'⟩, ?_⟩
    rw [wl_togo_is h', ht]
    omega

set_option maxRecDepth 1000000 in
theorem wl_loop {wS : World} {L : Pl} {p : Nat → Nat} {a al : Option Addr} {N c la ca mm gs kp cp r : Nat} (u : Nat) (hu : u < L.n) (hn : L.n ≤ 60) (hr : p u = r) (hp : ∀ i, i < L.n → wS.cell? ⟨kp, i, none⟩ = some (.int .i64 (p i : Nat))) (hs1 : wS.cell? ⟨gs, 1, none⟩ = some (.int .i64 (u : Nat))) {w : World} (hf : (Below wS.heap.size wS w ∧ w.ownsRow wS.heap.size 3 1 (.slice none 0 0) (nodesOf 0 p r).length ((nodesOf 0 p r).map fun i => Value.int .i64 ((i : Nat) : Int)))) (Q : Exit → Act → World → Prop) (hQ : ∀ A w', wlI wS L p a al N c la ca mm gs kp cp r (L.n) A w' → Q (.exit 3) A w') {A : Act} (hA : A = ⟨#[.int .i64 (L.n : Nat), .slice al la ca, A.tmps.getD 2 undef, A.tmps.getD 3 undef, A.tmps.getD 4 undef, A.tmps.getD 5 undef, .pointer (some ⟨L.g, 0, none⟩), A.tmps.getD 7 undef, .bool true, .slice a N c, .int .i64 (mm : Nat), .pointer (some ⟨gs, 0, none⟩), A.tmps.getD 12 undef, A.tmps.getD 13 undef, .slice (some ⟨kp, 0, none⟩) L.n cp, .int .i64 0, A.tmps.getD 16 undef, A.tmps.getD 17 undef, A.tmps.getD 18 undef, A.tmps.getD 19 undef, .slice none 0 0, .int .i64 0, A.tmps.getD 22 undef, A.tmps.getD 23 undef, A.tmps.getD 24 undef, A.tmps.getD 25 undef, A.tmps.getD 26 undef, A.tmps.getD 27 undef, A.tmps.getD 28 undef, A.tmps.getD 29 undef, A.tmps.getD 30 undef, A.tmps.getD 31 undef, A.tmps.getD 32 undef, A.tmps.getD 33 undef, A.tmps.getD 34 undef, A.tmps.getD 35 undef, A.tmps.getD 36 undef, A.tmps.getD 37 undef, A.tmps.getD 38 undef, A.tmps.getD 39 undef, A.tmps.getD 40 undef, A.tmps.getD 41 undef, A.tmps.getD 42 undef, A.tmps.getD 43 undef, A.tmps.getD 44 undef, A.tmps.getD 45 undef, A.tmps.getD 46 undef, A.tmps.getD 47 undef, A.tmps.getD 48 undef, A.tmps.getD 49 undef, A.tmps.getD 50 undef, A.tmps.getD 51 undef, A.tmps.getD 52 undef, A.tmps.getD 53 undef, A.tmps.getD 54 undef, A.tmps.getD 55 undef, A.tmps.getD 56 undef, A.tmps.getD 57 undef, A.tmps.getD 58 undef, A.tmps.getD 59 undef, A.tmps.getD 60 undef, A.tmps.getD 61 undef, A.tmps.getD 62 undef, A.tmps.getD 63 undef, A.tmps.getD 64 undef, A.tmps.getD 65 undef, A.tmps.getD 66 undef, A.tmps.getD 67 undef, A.tmps.getD 68 undef, A.tmps.getD 69 undef, A.tmps.getD 70 undef, A.tmps.getD 71 undef, A.tmps.getD 72 undef, A.tmps.getD 73 undef, A.tmps.getD 74 undef, A.tmps.getD 75 undef, A.tmps.getD 76 undef, A.tmps.getD 77 undef, A.tmps.getD 78 undef, A.tmps.getD 79 undef, A.tmps.getD 80 undef, A.tmps.getD 81 undef, A.tmps.getD 82 undef, A.tmps.getD 83 undef, A.tmps.getD 84 undef, A.tmps.getD 85 undef, A.tmps.getD 86 undef, A.tmps.getD 87 undef, A.tmps.getD 88 undef, A.tmps.getD 89 undef, A.tmps.getD 90 undef, A.tmps.getD 91 undef, A.tmps.getD 92 undef, A.tmps.getD 93 undef, A.tmps.getD 94 undef, A.tmps.getD 95 undef, A.tmps.getD 96 undef, A.tmps.getD 97 undef, A.tmps.getD 98 undef, A.tmps.getD 99 undef, A.tmps.getD 100 undef, A.tmps.getD 101 undef, A.tmps.getD 102 undef, A.tmps.getD 103 undef, A.tmps.getD 104 undef, A.tmps.getD 105 undef, A.tmps.getD 106 undef, A.tmps.getD 107 undef, A.tmps.getD 108 undef, A.tmps.getD 109 undef, A.tmps.getD 110 undef, A.tmps.getD 111 undef, A.tmps.getD 112 undef, A.tmps.getD 113 undef, A.tmps.getD 114 undef, A.tmps.getD 115 undef, A.tmps.getD 116 undef, A.tmps.getD 117 undef, A.tmps.getD 118 undef, A.tmps.getD 119 undef, A.tmps.getD 120 undef, A.tmps.getD 121 undef, A.tmps.getD 122 undef, A.tmps.getD 123 undef, A.tmps.getD 124 undef, A.tmps.getD 125 undef, A.tmps.getD 126 undef, A.tmps.getD 127 undef, A.tmps.getD 128 undef, A.tmps.getD 129 undef, A.tmps.getD 130 undef, A.tmps.getD 131 undef, A.tmps.getD 132 undef, A.tmps.getD 133 undef, A.tmps.getD 134 undef, A.tmps.getD 135 undef, A.tmps.getD 136 undef, A.tmps.getD 137 undef, A.tmps.getD 138 undef, A.tmps.getD 139 undef, A.tmps.getD 140 undef, A.tmps.getD 141 undef, A.tmps.getD 142 undef, A.tmps.getD 143 undef, A.tmps.getD 144 undef, A.tmps.getD 145 undef, A.tmps.getD 146 undef, A.tmps.getD 147 undef, A.tmps.getD 148 undef, A.tmps.getD 149 undef, A.tmps.getD 150 undef, A.tmps.getD 151 undef, A.tmps.getD 152 undef, A.tmps.getD 153 undef, A.tmps.getD 154 undef, A.tmps.getD 155 undef, A.tmps.getD 156 undef, A.tmps.getD 157 undef, A.tmps.getD 158 undef, A.tmps.getD 159 undef, A.tmps.getD 160 undef, A.tmps.getD 161 undef, A.tmps.getD 162 undef, A.tmps.getD 163 undef, A.tmps.getD 164 undef, A.tmps.getD 165 undef, A.tmps.getD 166 undef, A.tmps.getD 167 undef, A.tmps.getD 168 undef, A.tmps.getD 169 undef, A.tmps.getD 170 undef, A.tmps.getD 171 undef, A.tmps.getD 172 undef, A.tmps.getD 173 undef, A.tmps.getD 174 undef, A.tmps.getD 175 undef, A.tmps.getD 176 undef, A.tmps.getD 177 undef, A.tmps.getD 178 undef, A.tmps.getD 179 undef, A.tmps.getD 180 undef, A.tmps.getD 181 undef, A.tmps.getD 182 undef, A.tmps.getD 183 undef, A.tmps.getD 184 undef, A.tmps.getD 185 undef, A.tmps.getD 186 undef, A.tmps.getD 187 undef, A.tmps.getD 188 undef, A.tmps.getD 189 undef, A.tmps.getD 190 undef, A.tmps.getD 191 undef, A.tmps.getD 192 undef, A.tmps.getD 193 undef, A.tmps.getD 194 undef, A.tmps.getD 195 undef, A.tmps.getD 196 undef, A.tmps.getD 197 undef, A.tmps.getD 198 undef, A.tmps.getD 199 undef, A.tmps.getD 200 undef, A.tmps.getD 201 undef, A.tmps.getD 202 undef, A.tmps.getD 203 undef, A.tmps.getD 204 undef, A.tmps.getD 205 undef, A.tmps.getD 206 undef, A.tmps.getD 207 undef, A.tmps.getD 208 undef, A.tmps.getD 209 undef, A.tmps.getD 210 undef, A.tmps.getD 211 undef, A.tmps.getD 212 undef, A.tmps.getD 213 undef, A.tmps.getD 214 undef, A.tmps.getD 215 undef, A.tmps.getD 216 undef, A.tmps.getD 217 undef, A.tmps.getD 218 undef, A.tmps.getD 219 undef, A.tmps.getD 220 undef, A.tmps.getD 221 undef, A.tmps.getD 222 undef, A.tmps.getD 223 undef, A.tmps.getD 224 undef, A.tmps.getD 225 undef, A.tmps.getD 226 undef, A.tmps.getD 227 undef, A.tmps.getD 228 undef, A.tmps.getD 229 undef, A.tmps.getD 230 undef, A.tmps.getD 231 undef, A.tmps.getD 232 undef, A.tmps.getD 233 undef, A.tmps.getD 234 undef, A.tmps.getD 235 undef, A.tmps.getD 236 undef, A.tmps.getD 237 undef, A.tmps.getD 238 undef, A.tmps.getD 239 undef, A.tmps.getD 240 undef, A.tmps.getD 241 undef, A.tmps.getD 242 undef, A.tmps.getD 243 undef, A.tmps.getD 244 undef], []⟩) : (Code.loop (loopAt Tryz.f3 1)).wp Tryz.prog Q A w :=
  wp_loop (fun A w => ∃ m, wlI wS L p a al N c la ca mm gs kp cp r m A w) (wl_togo (L.n)) ⟨0, wl_intro _ (Nat.zero_le _) hf hA⟩ (fun A w' h => wl_round u hu hn hr hp hs1 Q hQ A w' h)

end Go.Proofs.YtdlnbeoccakleaaGreatDoor
