/-
  UnionOrder: the loops that compare.
-/
import Derived.Test.YtfnidfbogkfaeaaUk
namespace Go.Proofs.Ytfnidfbogkfaeaa
open Go.RowKit Go.Deep
set_option linter.unusedVariables false


/-- Two unions of as many nodes. -/
structure TW (w0 : World) (n g gv : Nat) (F G : Nat → Prop) (L M : List (Nat × Nat)) (w : World) : Prop where
  u : UAt w0.heap.size n w g F L
  v : UAt w0.heap.size n w gv G M
  below : Below w0.heap.size w0 w

theorem TW.step {w0 : World} {n g gv : Nat} {F G : Nat → Prop} {L M : List (Nat × Nat)} {w w' : World} (k : TW w0 n g gv F G L M w) (hB : Below w.heap.size w w') : TW w0 n g gv F G L M w' := ⟨k.u.below hB, k.v.below hB, below_step k.below hB⟩

set_option maxRecDepth 1000000 in
/-- Where the loop stands. -/
def oiI (w0 : World) (n g gv : Nat) (F G : Nat → Prop) (L M : List (Nat × Nat)) (a : Nat) (m : Nat) (A : Act) (w : World) : Prop :=
  ∃ (U : Nat → Value) , m ≤ a ∧ TW w0 n g gv F G L M w ∧ A = ⟨#[.int .i64 (n : Nat), U 1, U 2, U 3, U 4, U 5, U 6, U 7, .pointer (some ⟨g, 0, none⟩), U 9, .pointer (some ⟨gv, 0, none⟩), U 11, U 12, U 13, .int .i64 (a : Nat), U 15, U 16, U 17, U 18, .int .i64 (m : Nat), U 20, U 21, U 22, U 23, U 24, U 25, U 26, U 27, U 28, U 29, U 30, U 31, U 32, U 33, U 34, U 35, U 36, U 37, U 38, U 39, U 40, U 41, U 42, U 43, U 44, U 45, U 46, U 47, U 48, U 49, U 50, U 51, U 52, U 53, U 54, U 55, U 56, U 57, U 58, U 59, U 60, U 61, U 62, U 63, U 64, U 65, U 66, U 67, U 68, U 69, U 70, U 71, U 72, U 73, U 74, U 75, U 76, U 77, U 78, U 79, U 80, U 81, U 82, U 83, U 84, U 85, U 86, U 87, U 88, U 89, U 90, U 91, U 92, U 93, U 94, U 95, U 96, U 97, U 98, U 99, U 100, U 101, U 102, U 103, U 104, U 105, U 106, U 107, U 108, U 109, U 110, U 111, U 112, U 113, U 114, U 115, U 116, U 117, U 118, U 119, U 120, U 121, U 122, U 123, U 124, U 125, U 126, U 127, U 128, U 129, U 130, U 131, U 132, U 133, U 134, U 135, U 136, U 137, U 138, U 139, U 140, U 141, U 142, U 143, U 144, U 145, U 146, U 147, U 148, U 149, U 150, U 151, U 152, U 153, U 154, U 155, U 156, U 157, U 158, U 159, U 160, U 161, U 162, U 163, U 164, U 165, U 166, U 167, U 168, U 169, U 170, U 171, U 172, U 173, U 174, U 175], []⟩

set_option maxRecDepth 1000000 in
theorem oi_intro {w0 : World} {n g gv : Nat} {F G : Nat → Prop} {L M : List (Nat × Nat)} {a : Nat} {m : Nat} {A : Act} {w : World}  (h1 : m ≤ a) (hf : TW w0 n g gv F G L M w) (h : A = ⟨#[.int .i64 (n : Nat), A.tmps.getD 1 undef, A.tmps.getD 2 undef, A.tmps.getD 3 undef, A.tmps.getD 4 undef, A.tmps.getD 5 undef, A.tmps.getD 6 undef, A.tmps.getD 7 undef, .pointer (some ⟨g, 0, none⟩), A.tmps.getD 9 undef, .pointer (some ⟨gv, 0, none⟩), A.tmps.getD 11 undef, A.tmps.getD 12 undef, A.tmps.getD 13 undef, .int .i64 (a : Nat), A.tmps.getD 15 undef, A.tmps.getD 16 undef, A.tmps.getD 17 undef, A.tmps.getD 18 undef, .int .i64 (m : Nat), A.tmps.getD 20 undef, A.tmps.getD 21 undef, A.tmps.getD 22 undef, A.tmps.getD 23 undef, A.tmps.getD 24 undef, A.tmps.getD 25 undef, A.tmps.getD 26 undef, A.tmps.getD 27 undef, A.tmps.getD 28 undef, A.tmps.getD 29 undef, A.tmps.getD 30 undef, A.tmps.getD 31 undef, A.tmps.getD 32 undef, A.tmps.getD 33 undef, A.tmps.getD 34 undef, A.tmps.getD 35 undef, A.tmps.getD 36 undef, A.tmps.getD 37 undef, A.tmps.getD 38 undef, A.tmps.getD 39 undef, A.tmps.getD 40 undef, A.tmps.getD 41 undef, A.tmps.getD 42 undef, A.tmps.getD 43 undef, A.tmps.getD 44 undef, A.tmps.getD 45 undef, A.tmps.getD 46 undef, A.tmps.getD 47 undef, A.tmps.getD 48 undef, A.tmps.getD 49 undef, A.tmps.getD 50 undef, A.tmps.getD 51 undef, A.tmps.getD 52 undef, A.tmps.getD 53 undef, A.tmps.getD 54 undef, A.tmps.getD 55 undef, A.tmps.getD 56 undef, A.tmps.getD 57 undef, A.tmps.getD 58 undef, A.tmps.getD 59 undef, A.tmps.getD 60 undef, A.tmps.getD 61 undef, A.tmps.getD 62 undef, A.tmps.getD 63 undef, A.tmps.getD 64 undef, A.tmps.getD 65 undef, A.tmps.getD 66 undef, A.tmps.getD 67 undef, A.tmps.getD 68 undef, A.tmps.getD 69 undef, A.tmps.getD 70 undef, A.tmps.getD 71 undef, A.tmps.getD 72 undef, A.tmps.getD 73 undef, A.tmps.getD 74 undef, A.tmps.getD 75 undef, A.tmps.getD 76 undef, A.tmps.getD 77 undef, A.tmps.getD 78 undef, A.tmps.getD 79 undef, A.tmps.getD 80 undef, A.tmps.getD 81 undef, A.tmps.getD 82 undef, A.tmps.getD 83 undef, A.tmps.getD 84 undef, A.tmps.getD 85 undef, A.tmps.getD 86 undef, A.tmps.getD 87 undef, A.tmps.getD 88 undef, A.tmps.getD 89 undef, A.tmps.getD 90 undef, A.tmps.getD 91 undef, A.tmps.getD 92 undef, A.tmps.getD 93 undef, A.tmps.getD 94 undef, A.tmps.getD 95 undef, A.tmps.getD 96 undef, A.tmps.getD 97 undef, A.tmps.getD 98 undef, A.tmps.getD 99 undef, A.tmps.getD 100 undef, A.tmps.getD 101 undef, A.tmps.getD 102 undef, A.tmps.getD 103 undef, A.tmps.getD 104 undef, A.tmps.getD 105 undef, A.tmps.getD 106 undef, A.tmps.getD 107 undef, A.tmps.getD 108 undef, A.tmps.getD 109 undef, A.tmps.getD 110 undef, A.tmps.getD 111 undef, A.tmps.getD 112 undef, A.tmps.getD 113 undef, A.tmps.getD 114 undef, A.tmps.getD 115 undef, A.tmps.getD 116 undef, A.tmps.getD 117 undef, A.tmps.getD 118 undef, A.tmps.getD 119 undef, A.tmps.getD 120 undef, A.tmps.getD 121 undef, A.tmps.getD 122 undef, A.tmps.getD 123 undef, A.tmps.getD 124 undef, A.tmps.getD 125 undef, A.tmps.getD 126 undef, A.tmps.getD 127 undef, A.tmps.getD 128 undef, A.tmps.getD 129 undef, A.tmps.getD 130 undef, A.tmps.getD 131 undef, A.tmps.getD 132 undef, A.tmps.getD 133 undef, A.tmps.getD 134 undef, A.tmps.getD 135 undef, A.tmps.getD 136 undef, A.tmps.getD 137 undef, A.tmps.getD 138 undef, A.tmps.getD 139 undef, A.tmps.getD 140 undef, A.tmps.getD 141 undef, A.tmps.getD 142 undef, A.tmps.getD 143 undef, A.tmps.getD 144 undef, A.tmps.getD 145 undef, A.tmps.getD 146 undef, A.tmps.getD 147 undef, A.tmps.getD 148 undef, A.tmps.getD 149 undef, A.tmps.getD 150 undef, A.tmps.getD 151 undef, A.tmps.getD 152 undef, A.tmps.getD 153 undef, A.tmps.getD 154 undef, A.tmps.getD 155 undef, A.tmps.getD 156 undef, A.tmps.getD 157 undef, A.tmps.getD 158 undef, A.tmps.getD 159 undef, A.tmps.getD 160 undef, A.tmps.getD 161 undef, A.tmps.getD 162 undef, A.tmps.getD 163 undef, A.tmps.getD 164 undef, A.tmps.getD 165 undef, A.tmps.getD 166 undef, A.tmps.getD 167 undef, A.tmps.getD 168 undef, A.tmps.getD 169 undef, A.tmps.getD 170 undef, A.tmps.getD 171 undef, A.tmps.getD 172 undef, A.tmps.getD 173 undef, A.tmps.getD 174 undef, A.tmps.getD 175 undef], []⟩) : oiI w0 n g gv F G L M a m A w :=
  ⟨fun k => A.tmps.getD k undef,  h1, hf, h⟩

set_option maxRecDepth 1000000 in
set_option maxHeartbeats 4000000 in
theorem oi_go {w0 : World} {n g gv : Nat} {F G : Nat → Prop} {L M : List (Nat × Nat)} {a : Nat} {m : Nat} {U : Nat → Value} {w : World}  (hs : ∀ i j, rt L i = rt L j ↔ rt M i = rt M j) (ha : a < n) (hn : n ≤ 60) (hm : m < a) (hf : TW w0 n g gv F G L M w) (K : Act → World → Prop) (Q : Exit → Act → World → Prop) (hK : ∀ A w', oiI w0 n g gv F G L M a (m + 1) A w' → K A w') :
    (loopAt Try.f6 3).wp Try.prog (Exit.then K Q) ⟨#[.int .i64 (n : Nat), U 1, U 2, U 3, U 4, U 5, U 6, U 7, .pointer (some ⟨g, 0, none⟩), U 9, .pointer (some ⟨gv, 0, none⟩), U 11, U 12, U 13, .int .i64 (a : Nat), U 15, U 16, U 17, U 18, .int .i64 (m : Nat), U 20, U 21, U 22, U 23, U 24, U 25, U 26, U 27, U 28, U 29, U 30, U 31, U 32, U 33, U 34, U 35, U 36, U 37, U 38, U 39, U 40, U 41, U 42, U 43, U 44, U 45, U 46, U 47, U 48, U 49, U 50, U 51, U 52, U 53, U 54, U 55, U 56, U 57, U 58, U 59, U 60, U 61, U 62, U 63, U 64, U 65, U 66, U 67, U 68, U 69, U 70, U 71, U 72, U 73, U 74, U 75, U 76, U 77, U 78, U 79, U 80, U 81, U 82, U 83, U 84, U 85, U 86, U 87, U 88, U 89, U 90, U 91, U 92, U 93, U 94, U 95, U 96, U 97, U 98, U 99, U 100, U 101, U 102, U 103, U 104, U 105, U 106, U 107, U 108, U 109, U 110, U 111, U 112, U 113, U 114, U 115, U 116, U 117, U 118, U 119, U 120, U 121, U 122, U 123, U 124, U 125, U 126, U 127, U 128, U 129, U 130, U 131, U 132, U 133, U 134, U 135, U 136, U 137, U 138, U 139, U 140, U 141, U 142, U 143, U 144, U 145, U 146, U 147, U 148, U 149, U 150, U 151, U 152, U 153, U 154, U 155, U 156, U 157, U 158, U 159, U 160, U 161, U 162, U 163, U 164, U 165, U 166, U 167, U 168, U 169, U 170, U 171, U 172, U 173, U 174, U 175], []⟩ w := by
  have HK : Hid (∀ A w', oiI w0 n g gv F G L M a (m + 1) A w' → K A w') := hK
  clear hK
  have s1 := same_u hf.u a m ha (by omega)
  have e : decide (rt M m = rt M a) = decide (rt L a = rt L m) := by
    by_cases e : rt L a = rt L m
    · simp [e, ((hs a m).1 e).symm]
    · have : ¬ rt M m = rt M a := fun e2 => e ((hs a m).2 e2.symm)
      simp [e, this]
  have s2 := fun w1 (hB : Below w.heap.size w w1) => same_u (hf.v.below hB) m a (by omega) ha
  rw [e] at s2
  generalize decide (rt L a = rt L m) = x at *
  have HF : Hid (TW w0 n g gv F G L M w) := hf
  have HS2 : Hid (∀ w1, Below w.heap.size w w1 → Calls Try.prog 19 #[.pointer (some ⟨gv, 0, none⟩), .int .i64 (m : Nat), .int .i64 (a : Nat)] w1 fun e w' => e = .returned (.tuple #[.bool x, .nilIface]) ∧ Below w1.heap.size w1 w') := s2
  clear hf hs e s2
  conv => arg 2; whnf
  go_wp2_with fail
  refine s1.mono ?_
  clear s1
  rintro e w1 ⟨rfl, hB⟩
  go_wp2_with fail
  refine (HS2.out w1 hB).mono ?_
  clear HS2
  rintro e w2 ⟨rfl, hB2⟩
  have HF1 : Hid (TW w0 n g gv F G L M w2) := (HF.out.step hB).step hB2
  clear HF hB hB2
  go_wp2_with fail
  rw [show ((m : Int) + 1) = ((m + 1 : Nat) : Int) from by omega]
  exact HK.out _ _ (oi_intro (by omega) HF1.out rfl)

set_option maxRecDepth 1000000 in
set_option maxHeartbeats 4000000 in
theorem oi_end {w0 : World} {n g gv : Nat} {F G : Nat → Prop} {L M : List (Nat × Nat)} {a : Nat} {m : Nat} {U : Nat → Value} {w : World}  (hs : ∀ i j, rt L i = rt L j ↔ rt M i = rt M j) (ha : a < n) (hn : n ≤ 60) (hend : m = a) (hf : TW w0 n g gv F G L M w) (K : Act → World → Prop) (Q : Exit → Act → World → Prop) (hQ : ∀ A w', oiI w0 n g gv F G L M a (a) A w' → Q (.exit 6) A w') :
    (loopAt Try.f6 3).wp Try.prog (Exit.then K Q) ⟨#[.int .i64 (n : Nat), U 1, U 2, U 3, U 4, U 5, U 6, U 7, .pointer (some ⟨g, 0, none⟩), U 9, .pointer (some ⟨gv, 0, none⟩), U 11, U 12, U 13, .int .i64 (a : Nat), U 15, U 16, U 17, U 18, .int .i64 (m : Nat), U 20, U 21, U 22, U 23, U 24, U 25, U 26, U 27, U 28, U 29, U 30, U 31, U 32, U 33, U 34, U 35, U 36, U 37, U 38, U 39, U 40, U 41, U 42, U 43, U 44, U 45, U 46, U 47, U 48, U 49, U 50, U 51, U 52, U 53, U 54, U 55, U 56, U 57, U 58, U 59, U 60, U 61, U 62, U 63, U 64, U 65, U 66, U 67, U 68, U 69, U 70, U 71, U 72, U 73, U 74, U 75, U 76, U 77, U 78, U 79, U 80, U 81, U 82, U 83, U 84, U 85, U 86, U 87, U 88, U 89, U 90, U 91, U 92, U 93, U 94, U 95, U 96, U 97, U 98, U 99, U 100, U 101, U 102, U 103, U 104, U 105, U 106, U 107, U 108, U 109, U 110, U 111, U 112, U 113, U 114, U 115, U 116, U 117, U 118, U 119, U 120, U 121, U 122, U 123, U 124, U 125, U 126, U 127, U 128, U 129, U 130, U 131, U 132, U 133, U 134, U 135, U 136, U 137, U 138, U 139, U 140, U 141, U 142, U 143, U 144, U 145, U 146, U 147, U 148, U 149, U 150, U 151, U 152, U 153, U 154, U 155, U 156, U 157, U 158, U 159, U 160, U 161, U 162, U 163, U 164, U 165, U 166, U 167, U 168, U 169, U 170, U 171, U 172, U 173, U 174, U 175], []⟩ w := by
  have HQ : Hid (∀ A w', oiI w0 n g gv F G L M a m A w' → Q (.exit 6) A w') := fun A w' h => hQ A w' (by rw [hend] at h; exact h)
  have h1 : m ≤ a := by omega
  have HF : Hid (TW w0 n g gv F G L M w) := hf
  clear hQ hf
  have hnl : ¬ m < a := by omega
  clear hend
  conv => arg 2; whnf
  go_wp2_with fail
  exact HQ.out _ _ (oi_intro  h1 HF.out rfl)

/-- How many rounds are still to come, at most. -/
def oi_togo (B : Nat) (A : Act) (_w : World) : Nat := B - (intOf (A.tmps.getD 19 undef)).toNat

set_option maxRecDepth 1000000 in
theorem oi_togo_is {w0 : World} {n g gv : Nat} {F G : Nat → Prop} {L M : List (Nat × Nat)} {a : Nat} {m : Nat} {A : Act} {w : World} (h : oiI w0 n g gv F G L M a m A w) : oi_togo (a) A w = a - m := by
  obtain ⟨U,  _, _, rfl⟩ := h
  show a - ((m : Nat) : Int).toNat = a - m
  omega

theorem oi_round {w0 : World} {n g gv : Nat} {F G : Nat → Prop} {L M : List (Nat × Nat)} {a : Nat} (hs : ∀ i j, rt L i = rt L j ↔ rt M i = rt M j) (ha : a < n) (hn : n ≤ 60) (Q : Exit → Act → World → Prop) (hQ : ∀ A w', oiI w0 n g gv F G L M a (a) A w' → Q (.exit 6) A w') (A : Act) (w : World) (h : ∃ m, oiI w0 n g gv F G L M a m A w) :
    (loopAt Try.f6 3).wp Try.prog (Exit.then (fun A' w' => (∃ m, oiI w0 n g gv F G L M a m A' w') ∧ oi_togo (a) A' w' < oi_togo (a) A w) Q) A w := by
  obtain ⟨m, hI⟩ := h
  have ht := oi_togo_is hI
  obtain ⟨U,  h1, hf, rfl⟩ := hI
  by_cases hend : m = a
  · exact oi_end hs ha hn hend hf _ _ hQ
  · refine oi_go hs ha hn (by omega) hf _ _ fun A' w' h' => ⟨⟨m + 1, h'⟩, ?_⟩
    rw [oi_togo_is h', ht]
    omega

set_option maxRecDepth 1000000 in
theorem oi_loop {w0 : World} {n g gv : Nat} {F G : Nat → Prop} {L M : List (Nat × Nat)} {a : Nat} (hs : ∀ i j, rt L i = rt L j ↔ rt M i = rt M j) (ha : a < n) (hn : n ≤ 60) {w : World}  (hf : TW w0 n g gv F G L M w) (Q : Exit → Act → World → Prop) (hQ : ∀ A w', oiI w0 n g gv F G L M a (a) A w' → Q (.exit 6) A w') {A : Act} (hA : A = ⟨#[.int .i64 (n : Nat), A.tmps.getD 1 undef, A.tmps.getD 2 undef, A.tmps.getD 3 undef, A.tmps.getD 4 undef, A.tmps.getD 5 undef, A.tmps.getD 6 undef, A.tmps.getD 7 undef, .pointer (some ⟨g, 0, none⟩), A.tmps.getD 9 undef, .pointer (some ⟨gv, 0, none⟩), A.tmps.getD 11 undef, A.tmps.getD 12 undef, A.tmps.getD 13 undef, .int .i64 (a : Nat), A.tmps.getD 15 undef, A.tmps.getD 16 undef, A.tmps.getD 17 undef, A.tmps.getD 18 undef, .int .i64 0, A.tmps.getD 20 undef, A.tmps.getD 21 undef, A.tmps.getD 22 undef, A.tmps.getD 23 undef, A.tmps.getD 24 undef, A.tmps.getD 25 undef, A.tmps.getD 26 undef, A.tmps.getD 27 undef, A.tmps.getD 28 undef, A.tmps.getD 29 undef, A.tmps.getD 30 undef, A.tmps.getD 31 undef, A.tmps.getD 32 undef, A.tmps.getD 33 undef, A.tmps.getD 34 undef, A.tmps.getD 35 undef, A.tmps.getD 36 undef, A.tmps.getD 37 undef, A.tmps.getD 38 undef, A.tmps.getD 39 undef, A.tmps.getD 40 undef, A.tmps.getD 41 undef, A.tmps.getD 42 undef, A.tmps.getD 43 undef, A.tmps.getD 44 undef, A.tmps.getD 45 undef, A.tmps.getD 46 undef, A.tmps.getD 47 undef, A.tmps.getD 48 undef, A.tmps.getD 49 undef, A.tmps.getD 50 undef, A.tmps.getD 51 undef, A.tmps.getD 52 undef, A.tmps.getD 53 undef, A.tmps.getD 54 undef, A.tmps.getD 55 undef, A.tmps.getD 56 undef, A.tmps.getD 57 undef, A.tmps.getD 58 undef, A.tmps.getD 59 undef, A.tmps.getD 60 undef, A.tmps.getD 61 undef, A.tmps.getD 62 undef, A.tmps.getD 63 undef, A.tmps.getD 64 undef, A.tmps.getD 65 undef, A.tmps.getD 66 undef, A.tmps.getD 67 undef, A.tmps.getD 68 undef, A.tmps.getD 69 undef, A.tmps.getD 70 undef, A.tmps.getD 71 undef, A.tmps.getD 72 undef, A.tmps.getD 73 undef, A.tmps.getD 74 undef, A.tmps.getD 75 undef, A.tmps.getD 76 undef, A.tmps.getD 77 undef, A.tmps.getD 78 undef, A.tmps.getD 79 undef, A.tmps.getD 80 undef, A.tmps.getD 81 undef, A.tmps.getD 82 undef, A.tmps.getD 83 undef, A.tmps.getD 84 undef, A.tmps.getD 85 undef, A.tmps.getD 86 undef, A.tmps.getD 87 undef, A.tmps.getD 88 undef, A.tmps.getD 89 undef, A.tmps.getD 90 undef, A.tmps.getD 91 undef, A.tmps.getD 92 undef, A.tmps.getD 93 undef, A.tmps.getD 94 undef, A.tmps.getD 95 undef, A.tmps.getD 96 undef, A.tmps.getD 97 undef, A.tmps.getD 98 undef, A.tmps.getD 99 undef, A.tmps.getD 100 undef, A.tmps.getD 101 undef, A.tmps.getD 102 undef, A.tmps.getD 103 undef, A.tmps.getD 104 undef, A.tmps.getD 105 undef, A.tmps.getD 106 undef, A.tmps.getD 107 undef, A.tmps.getD 108 undef, A.tmps.getD 109 undef, A.tmps.getD 110 undef, A.tmps.getD 111 undef, A.tmps.getD 112 undef, A.tmps.getD 113 undef, A.tmps.getD 114 undef, A.tmps.getD 115 undef, A.tmps.getD 116 undef, A.tmps.getD 117 undef, A.tmps.getD 118 undef, A.tmps.getD 119 undef, A.tmps.getD 120 undef, A.tmps.getD 121 undef, A.tmps.getD 122 undef, A.tmps.getD 123 undef, A.tmps.getD 124 undef, A.tmps.getD 125 undef, A.tmps.getD 126 undef, A.tmps.getD 127 undef, A.tmps.getD 128 undef, A.tmps.getD 129 undef, A.tmps.getD 130 undef, A.tmps.getD 131 undef, A.tmps.getD 132 undef, A.tmps.getD 133 undef, A.tmps.getD 134 undef, A.tmps.getD 135 undef, A.tmps.getD 136 undef, A.tmps.getD 137 undef, A.tmps.getD 138 undef, A.tmps.getD 139 undef, A.tmps.getD 140 undef, A.tmps.getD 141 undef, A.tmps.getD 142 undef, A.tmps.getD 143 undef, A.tmps.getD 144 undef, A.tmps.getD 145 undef, A.tmps.getD 146 undef, A.tmps.getD 147 undef, A.tmps.getD 148 undef, A.tmps.getD 149 undef, A.tmps.getD 150 undef, A.tmps.getD 151 undef, A.tmps.getD 152 undef, A.tmps.getD 153 undef, A.tmps.getD 154 undef, A.tmps.getD 155 undef, A.tmps.getD 156 undef, A.tmps.getD 157 undef, A.tmps.getD 158 undef, A.tmps.getD 159 undef, A.tmps.getD 160 undef, A.tmps.getD 161 undef, A.tmps.getD 162 undef, A.tmps.getD 163 undef, A.tmps.getD 164 undef, A.tmps.getD 165 undef, A.tmps.getD 166 undef, A.tmps.getD 167 undef, A.tmps.getD 168 undef, A.tmps.getD 169 undef, A.tmps.getD 170 undef, A.tmps.getD 171 undef, A.tmps.getD 172 undef, A.tmps.getD 173 undef, A.tmps.getD 174 undef, A.tmps.getD 175 undef], []⟩) : (Code.loop (loopAt Try.f6 3)).wp Try.prog Q A w :=
  wp_loop (fun A w => ∃ m, oiI w0 n g gv F G L M a m A w) (oi_togo (a)) ⟨0, oi_intro  (Nat.zero_le _) hf hA⟩ (fun A w' h => oi_round hs ha hn Q hQ A w' h)

set_option maxRecDepth 1000000 in
/-- Where the loop stands. -/
def ooI (w0 : World) (n g gv : Nat) (F G : Nat → Prop) (L M : List (Nat × Nat)) (m : Nat) (A : Act) (w : World) : Prop :=
  ∃ (U : Nat → Value) , m ≤ n ∧ TW w0 n g gv F G L M w ∧ A = ⟨#[.int .i64 (n : Nat), U 1, U 2, U 3, U 4, U 5, U 6, U 7, .pointer (some ⟨g, 0, none⟩), U 9, .pointer (some ⟨gv, 0, none⟩), U 11, U 12, U 13, .int .i64 (m : Nat), U 15, U 16, U 17, U 18, U 19, U 20, U 21, U 22, U 23, U 24, U 25, U 26, U 27, U 28, U 29, U 30, U 31, U 32, U 33, U 34, U 35, U 36, U 37, U 38, U 39, U 40, U 41, U 42, U 43, U 44, U 45, U 46, U 47, U 48, U 49, U 50, U 51, U 52, U 53, U 54, U 55, U 56, U 57, U 58, U 59, U 60, U 61, U 62, U 63, U 64, U 65, U 66, U 67, U 68, U 69, U 70, U 71, U 72, U 73, U 74, U 75, U 76, U 77, U 78, U 79, U 80, U 81, U 82, U 83, U 84, U 85, U 86, U 87, U 88, U 89, U 90, U 91, U 92, U 93, U 94, U 95, U 96, U 97, U 98, U 99, U 100, U 101, U 102, U 103, U 104, U 105, U 106, U 107, U 108, U 109, U 110, U 111, U 112, U 113, U 114, U 115, U 116, U 117, U 118, U 119, U 120, U 121, U 122, U 123, U 124, U 125, U 126, U 127, U 128, U 129, U 130, U 131, U 132, U 133, U 134, U 135, U 136, U 137, U 138, U 139, U 140, U 141, U 142, U 143, U 144, U 145, U 146, U 147, U 148, U 149, U 150, U 151, U 152, U 153, U 154, U 155, U 156, U 157, U 158, U 159, U 160, U 161, U 162, U 163, U 164, U 165, U 166, U 167, U 168, U 169, U 170, U 171, U 172, U 173, U 174, U 175], []⟩

set_option maxRecDepth 1000000 in
theorem oo_intro {w0 : World} {n g gv : Nat} {F G : Nat → Prop} {L M : List (Nat × Nat)} {m : Nat} {A : Act} {w : World}  (h1 : m ≤ n) (hf : TW w0 n g gv F G L M w) (h : A = ⟨#[.int .i64 (n : Nat), A.tmps.getD 1 undef, A.tmps.getD 2 undef, A.tmps.getD 3 undef, A.tmps.getD 4 undef, A.tmps.getD 5 undef, A.tmps.getD 6 undef, A.tmps.getD 7 undef, .pointer (some ⟨g, 0, none⟩), A.tmps.getD 9 undef, .pointer (some ⟨gv, 0, none⟩), A.tmps.getD 11 undef, A.tmps.getD 12 undef, A.tmps.getD 13 undef, .int .i64 (m : Nat), A.tmps.getD 15 undef, A.tmps.getD 16 undef, A.tmps.getD 17 undef, A.tmps.getD 18 undef, A.tmps.getD 19 undef, A.tmps.getD 20 undef, A.tmps.getD 21 undef, A.tmps.getD 22 undef, A.tmps.getD 23 undef, A.tmps.getD 24 undef, A.tmps.getD 25 undef, A.tmps.getD 26 undef, A.tmps.getD 27 undef, A.tmps.getD 28 undef, A.tmps.getD 29 undef, A.tmps.getD 30 undef, A.tmps.getD 31 undef, A.tmps.getD 32 undef, A.tmps.getD 33 undef, A.tmps.getD 34 undef, A.tmps.getD 35 undef, A.tmps.getD 36 undef, A.tmps.getD 37 undef, A.tmps.getD 38 undef, A.tmps.getD 39 undef, A.tmps.getD 40 undef, A.tmps.getD 41 undef, A.tmps.getD 42 undef, A.tmps.getD 43 undef, A.tmps.getD 44 undef, A.tmps.getD 45 undef, A.tmps.getD 46 undef, A.tmps.getD 47 undef, A.tmps.getD 48 undef, A.tmps.getD 49 undef, A.tmps.getD 50 undef, A.tmps.getD 51 undef, A.tmps.getD 52 undef, A.tmps.getD 53 undef, A.tmps.getD 54 undef, A.tmps.getD 55 undef, A.tmps.getD 56 undef, A.tmps.getD 57 undef, A.tmps.getD 58 undef, A.tmps.getD 59 undef, A.tmps.getD 60 undef, A.tmps.getD 61 undef, A.tmps.getD 62 undef, A.tmps.getD 63 undef, A.tmps.getD 64 undef, A.tmps.getD 65 undef, A.tmps.getD 66 undef, A.tmps.getD 67 undef, A.tmps.getD 68 undef, A.tmps.getD 69 undef, A.tmps.getD 70 undef, A.tmps.getD 71 undef, A.tmps.getD 72 undef, A.tmps.getD 73 undef, A.tmps.getD 74 undef, A.tmps.getD 75 undef, A.tmps.getD 76 undef, A.tmps.getD 77 undef, A.tmps.getD 78 undef, A.tmps.getD 79 undef, A.tmps.getD 80 undef, A.tmps.getD 81 undef, A.tmps.getD 82 undef, A.tmps.getD 83 undef, A.tmps.getD 84 undef, A.tmps.getD 85 undef, A.tmps.getD 86 undef, A.tmps.getD 87 undef, A.tmps.getD 88 undef, A.tmps.getD 89 undef, A.tmps.getD 90 undef, A.tmps.getD 91 undef, A.tmps.getD 92 undef, A.tmps.getD 93 undef, A.tmps.getD 94 undef, A.tmps.getD 95 undef, A.tmps.getD 96 undef, A.tmps.getD 97 undef, A.tmps.getD 98 undef, A.tmps.getD 99 undef, A.tmps.getD 100 undef, A.tmps.getD 101 undef, A.tmps.getD 102 undef, A.tmps.getD 103 undef, A.tmps.getD 104 undef, A.tmps.getD 105 undef, A.tmps.getD 106 undef, A.tmps.getD 107 undef, A.tmps.getD 108 undef, A.tmps.getD 109 undef, A.tmps.getD 110 undef, A.tmps.getD 111 undef, A.tmps.getD 112 undef, A.tmps.getD 113 undef, A.tmps.getD 114 undef, A.tmps.getD 115 undef, A.tmps.getD 116 undef, A.tmps.getD 117 undef, A.tmps.getD 118 undef, A.tmps.getD 119 undef, A.tmps.getD 120 undef, A.tmps.getD 121 undef, A.tmps.getD 122 undef, A.tmps.getD 123 undef, A.tmps.getD 124 undef, A.tmps.getD 125 undef, A.tmps.getD 126 undef, A.tmps.getD 127 undef, A.tmps.getD 128 undef, A.tmps.getD 129 undef, A.tmps.getD 130 undef, A.tmps.getD 131 undef, A.tmps.getD 132 undef, A.tmps.getD 133 undef, A.tmps.getD 134 undef, A.tmps.getD 135 undef, A.tmps.getD 136 undef, A.tmps.getD 137 undef, A.tmps.getD 138 undef, A.tmps.getD 139 undef, A.tmps.getD 140 undef, A.tmps.getD 141 undef, A.tmps.getD 142 undef, A.tmps.getD 143 undef, A.tmps.getD 144 undef, A.tmps.getD 145 undef, A.tmps.getD 146 undef, A.tmps.getD 147 undef, A.tmps.getD 148 undef, A.tmps.getD 149 undef, A.tmps.getD 150 undef, A.tmps.getD 151 undef, A.tmps.getD 152 undef, A.tmps.getD 153 undef, A.tmps.getD 154 undef, A.tmps.getD 155 undef, A.tmps.getD 156 undef, A.tmps.getD 157 undef, A.tmps.getD 158 undef, A.tmps.getD 159 undef, A.tmps.getD 160 undef, A.tmps.getD 161 undef, A.tmps.getD 162 undef, A.tmps.getD 163 undef, A.tmps.getD 164 undef, A.tmps.getD 165 undef, A.tmps.getD 166 undef, A.tmps.getD 167 undef, A.tmps.getD 168 undef, A.tmps.getD 169 undef, A.tmps.getD 170 undef, A.tmps.getD 171 undef, A.tmps.getD 172 undef, A.tmps.getD 173 undef, A.tmps.getD 174 undef, A.tmps.getD 175 undef], []⟩) : ooI w0 n g gv F G L M m A w :=
  ⟨fun k => A.tmps.getD k undef,  h1, hf, h⟩

set_option maxRecDepth 1000000 in
set_option maxHeartbeats 4000000 in
theorem oo_go {w0 : World} {n g gv : Nat} {F G : Nat → Prop} {L M : List (Nat × Nat)} {m : Nat} {U : Nat → Value} {w : World}  (hs : ∀ i j, rt L i = rt L j ↔ rt M i = rt M j) (hn : n ≤ 60) (hm : m < n) (hf : TW w0 n g gv F G L M w) (K : Act → World → Prop) (Q : Exit → Act → World → Prop) (hK : ∀ A w', ooI w0 n g gv F G L M (m + 1) A w' → K A w') :
    (loopAt Try.f6 2).wp Try.prog (Exit.then K Q) ⟨#[.int .i64 (n : Nat), U 1, U 2, U 3, U 4, U 5, U 6, U 7, .pointer (some ⟨g, 0, none⟩), U 9, .pointer (some ⟨gv, 0, none⟩), U 11, U 12, U 13, .int .i64 (m : Nat), U 15, U 16, U 17, U 18, U 19, U 20, U 21, U 22, U 23, U 24, U 25, U 26, U 27, U 28, U 29, U 30, U 31, U 32, U 33, U 34, U 35, U 36, U 37, U 38, U 39, U 40, U 41, U 42, U 43, U 44, U 45, U 46, U 47, U 48, U 49, U 50, U 51, U 52, U 53, U 54, U 55, U 56, U 57, U 58, U 59, U 60, U 61, U 62, U 63, U 64, U 65, U 66, U 67, U 68, U 69, U 70, U 71, U 72, U 73, U 74, U 75, U 76, U 77, U 78, U 79, U 80, U 81, U 82, U 83, U 84, U 85, U 86, U 87, U 88, U 89, U 90, U 91, U 92, U 93, U 94, U 95, U 96, U 97, U 98, U 99, U 100, U 101, U 102, U 103, U 104, U 105, U 106, U 107, U 108, U 109, U 110, U 111, U 112, U 113, U 114, U 115, U 116, U 117, U 118, U 119, U 120, U 121, U 122, U 123, U 124, U 125, U 126, U 127, U 128, U 129, U 130, U 131, U 132, U 133, U 134, U 135, U 136, U 137, U 138, U 139, U 140, U 141, U 142, U 143, U 144, U 145, U 146, U 147, U 148, U 149, U 150, U 151, U 152, U 153, U 154, U 155, U 156, U 157, U 158, U 159, U 160, U 161, U 162, U 163, U 164, U 165, U 166, U 167, U 168, U 169, U 170, U 171, U 172, U 173, U 174, U 175], []⟩ w := by
  have HK : Hid (∀ A w', ooI w0 n g gv F G L M (m + 1) A w' → K A w') := hK
  clear hK
  have s1 := size_u hf.u m hm
  have s2 := fun w1 (hB : Below w.heap.size w w1) => size_u (hf.v.below hB) m hm
  rw [← size_same hf.u.linked.1 hf.v.linked.1 hs hm] at s2
  generalize cz L (rt L m) = x at *
  have HF : Hid (TW w0 n g gv F G L M w) := hf
  have HS : Hid (∀ i j, rt L i = rt L j ↔ rt M i = rt M j) := hs
  have HS2 : Hid (∀ w1, Below w.heap.size w w1 → Calls Try.prog 20 #[.pointer (some ⟨gv, 0, none⟩), .int .i64 (m : Nat)] w1 fun e w' => e = .returned (.tuple #[.int .i64 (x : Nat), .nilIface]) ∧ Below w1.heap.size w1 w') := s2
  clear hf s2 hs
  conv => arg 2; whnf
  go_wp2_with fail
  refine s1.mono ?_
  clear s1
  rintro e w1 ⟨rfl, hB⟩
  go_wp2_with fail
  refine (HS2.out w1 hB).mono ?_
  clear HS2
  rintro e w2 ⟨rfl, hB2⟩
  have HF1 : Hid (TW w0 n g gv F G L M w2) := (HF.out.step hB).step hB2
  clear HF hB hB2
  go_wp2_with fail
  refine oi_loop HS.out hm hn HF1.out _ ?_ rfl
  clear HF1
  rintro A w3 ⟨U, _, hf, rfl⟩
  have HF : Hid (TW w0 n g gv F G L M w3) := hf
  clear hf
  go_wp2_with fail
  rw [show ((m : Int) + 1) = ((m + 1 : Nat) : Int) from by omega]
  exact HK.out _ _ (oo_intro (by omega) HF.out rfl)

set_option maxRecDepth 1000000 in
set_option maxHeartbeats 4000000 in
theorem oo_end {w0 : World} {n g gv : Nat} {F G : Nat → Prop} {L M : List (Nat × Nat)} {m : Nat} {U : Nat → Value} {w : World}  (hs : ∀ i j, rt L i = rt L j ↔ rt M i = rt M j) (hn : n ≤ 60) (hend : m = n) (hf : TW w0 n g gv F G L M w) (K : Act → World → Prop) (Q : Exit → Act → World → Prop) (hQ : ∀ A w', ooI w0 n g gv F G L M (n) A w' → Q (.exit 4) A w') :
    (loopAt Try.f6 2).wp Try.prog (Exit.then K Q) ⟨#[.int .i64 (n : Nat), U 1, U 2, U 3, U 4, U 5, U 6, U 7, .pointer (some ⟨g, 0, none⟩), U 9, .pointer (some ⟨gv, 0, none⟩), U 11, U 12, U 13, .int .i64 (m : Nat), U 15, U 16, U 17, U 18, U 19, U 20, U 21, U 22, U 23, U 24, U 25, U 26, U 27, U 28, U 29, U 30, U 31, U 32, U 33, U 34, U 35, U 36, U 37, U 38, U 39, U 40, U 41, U 42, U 43, U 44, U 45, U 46, U 47, U 48, U 49, U 50, U 51, U 52, U 53, U 54, U 55, U 56, U 57, U 58, U 59, U 60, U 61, U 62, U 63, U 64, U 65, U 66, U 67, U 68, U 69, U 70, U 71, U 72, U 73, U 74, U 75, U 76, U 77, U 78, U 79, U 80, U 81, U 82, U 83, U 84, U 85, U 86, U 87, U 88, U 89, U 90, U 91, U 92, U 93, U 94, U 95, U 96, U 97, U 98, U 99, U 100, U 101, U 102, U 103, U 104, U 105, U 106, U 107, U 108, U 109, U 110, U 111, U 112, U 113, U 114, U 115, U 116, U 117, U 118, U 119, U 120, U 121, U 122, U 123, U 124, U 125, U 126, U 127, U 128, U 129, U 130, U 131, U 132, U 133, U 134, U 135, U 136, U 137, U 138, U 139, U 140, U 141, U 142, U 143, U 144, U 145, U 146, U 147, U 148, U 149, U 150, U 151, U 152, U 153, U 154, U 155, U 156, U 157, U 158, U 159, U 160, U 161, U 162, U 163, U 164, U 165, U 166, U 167, U 168, U 169, U 170, U 171, U 172, U 173, U 174, U 175], []⟩ w := by
  have HQ : Hid (∀ A w', ooI w0 n g gv F G L M m A w' → Q (.exit 4) A w') := fun A w' h => hQ A w' (by rw [hend] at h; exact h)
  have h1 : m ≤ n := by omega
  have HF : Hid (TW w0 n g gv F G L M w) := hf
  clear hQ hf
  have hnl : ¬ m < n := by omega
  clear hend
  conv => arg 2; whnf
  go_wp2_with fail
  exact HQ.out _ _ (oo_intro  h1 HF.out rfl)

/-- How many rounds are still to come, at most. -/
def oo_togo (B : Nat) (A : Act) (_w : World) : Nat := B - (intOf (A.tmps.getD 14 undef)).toNat

set_option maxRecDepth 1000000 in
theorem oo_togo_is {w0 : World} {n g gv : Nat} {F G : Nat → Prop} {L M : List (Nat × Nat)} {m : Nat} {A : Act} {w : World} (h : ooI w0 n g gv F G L M m A w) : oo_togo (n) A w = n - m := by
  obtain ⟨U,  _, _, rfl⟩ := h
  show n - ((m : Nat) : Int).toNat = n - m
  omega

theorem oo_round {w0 : World} {n g gv : Nat} {F G : Nat → Prop} {L M : List (Nat × Nat)} (hs : ∀ i j, rt L i = rt L j ↔ rt M i = rt M j) (hn : n ≤ 60) (Q : Exit → Act → World → Prop) (hQ : ∀ A w', ooI w0 n g gv F G L M (n) A w' → Q (.exit 4) A w') (A : Act) (w : World) (h : ∃ m, ooI w0 n g gv F G L M m A w) :
    (loopAt Try.f6 2).wp Try.prog (Exit.then (fun A' w' => (∃ m, ooI w0 n g gv F G L M m A' w') ∧ oo_togo (n) A' w' < oo_togo (n) A w) Q) A w := by
  obtain ⟨m, hI⟩ := h
  have ht := oo_togo_is hI
  obtain ⟨U,  h1, hf, rfl⟩ := hI
  by_cases hend : m = n
  · exact oo_end hs hn hend hf _ _ hQ
  · refine oo_go hs hn (by omega) hf _ _ fun A' w' h' => ⟨⟨m + 1, h'⟩, ?_⟩
    rw [oo_togo_is h', ht]
    omega

set_option maxRecDepth 1000000 in
theorem oo_loop {w0 : World} {n g gv : Nat} {F G : Nat → Prop} {L M : List (Nat × Nat)} (hs : ∀ i j, rt L i = rt L j ↔ rt M i = rt M j) (hn : n ≤ 60) {w : World}  (hf : TW w0 n g gv F G L M w) (Q : Exit → Act → World → Prop) (hQ : ∀ A w', ooI w0 n g gv F G L M (n) A w' → Q (.exit 4) A w') {A : Act} (hA : A = ⟨#[.int .i64 (n : Nat), A.tmps.getD 1 undef, A.tmps.getD 2 undef, A.tmps.getD 3 undef, A.tmps.getD 4 undef, A.tmps.getD 5 undef, A.tmps.getD 6 undef, A.tmps.getD 7 undef, .pointer (some ⟨g, 0, none⟩), A.tmps.getD 9 undef, .pointer (some ⟨gv, 0, none⟩), A.tmps.getD 11 undef, A.tmps.getD 12 undef, A.tmps.getD 13 undef, .int .i64 0, A.tmps.getD 15 undef, A.tmps.getD 16 undef, A.tmps.getD 17 undef, A.tmps.getD 18 undef, A.tmps.getD 19 undef, A.tmps.getD 20 undef, A.tmps.getD 21 undef, A.tmps.getD 22 undef, A.tmps.getD 23 undef, A.tmps.getD 24 undef, A.tmps.getD 25 undef, A.tmps.getD 26 undef, A.tmps.getD 27 undef, A.tmps.getD 28 undef, A.tmps.getD 29 undef, A.tmps.getD 30 undef, A.tmps.getD 31 undef, A.tmps.getD 32 undef, A.tmps.getD 33 undef, A.tmps.getD 34 undef, A.tmps.getD 35 undef, A.tmps.getD 36 undef, A.tmps.getD 37 undef, A.tmps.getD 38 undef, A.tmps.getD 39 undef, A.tmps.getD 40 undef, A.tmps.getD 41 undef, A.tmps.getD 42 undef, A.tmps.getD 43 undef, A.tmps.getD 44 undef, A.tmps.getD 45 undef, A.tmps.getD 46 undef, A.tmps.getD 47 undef, A.tmps.getD 48 undef, A.tmps.getD 49 undef, A.tmps.getD 50 undef, A.tmps.getD 51 undef, A.tmps.getD 52 undef, A.tmps.getD 53 undef, A.tmps.getD 54 undef, A.tmps.getD 55 undef, A.tmps.getD 56 undef, A.tmps.getD 57 undef, A.tmps.getD 58 undef, A.tmps.getD 59 undef, A.tmps.getD 60 undef, A.tmps.getD 61 undef, A.tmps.getD 62 undef, A.tmps.getD 63 undef, A.tmps.getD 64 undef, A.tmps.getD 65 undef, A.tmps.getD 66 undef, A.tmps.getD 67 undef, A.tmps.getD 68 undef, A.tmps.getD 69 undef, A.tmps.getD 70 undef, A.tmps.getD 71 undef, A.tmps.getD 72 undef, A.tmps.getD 73 undef, A.tmps.getD 74 undef, A.tmps.getD 75 undef, A.tmps.getD 76 undef, A.tmps.getD 77 undef, A.tmps.getD 78 undef, A.tmps.getD 79 undef, A.tmps.getD 80 undef, A.tmps.getD 81 undef, A.tmps.getD 82 undef, A.tmps.getD 83 undef, A.tmps.getD 84 undef, A.tmps.getD 85 undef, A.tmps.getD 86 undef, A.tmps.getD 87 undef, A.tmps.getD 88 undef, A.tmps.getD 89 undef, A.tmps.getD 90 undef, A.tmps.getD 91 undef, A.tmps.getD 92 undef, A.tmps.getD 93 undef, A.tmps.getD 94 undef, A.tmps.getD 95 undef, A.tmps.getD 96 undef, A.tmps.getD 97 undef, A.tmps.getD 98 undef, A.tmps.getD 99 undef, A.tmps.getD 100 undef, A.tmps.getD 101 undef, A.tmps.getD 102 undef, A.tmps.getD 103 undef, A.tmps.getD 104 undef, A.tmps.getD 105 undef, A.tmps.getD 106 undef, A.tmps.getD 107 undef, A.tmps.getD 108 undef, A.tmps.getD 109 undef, A.tmps.getD 110 undef, A.tmps.getD 111 undef, A.tmps.getD 112 undef, A.tmps.getD 113 undef, A.tmps.getD 114 undef, A.tmps.getD 115 undef, A.tmps.getD 116 undef, A.tmps.getD 117 undef, A.tmps.getD 118 undef, A.tmps.getD 119 undef, A.tmps.getD 120 undef, A.tmps.getD 121 undef, A.tmps.getD 122 undef, A.tmps.getD 123 undef, A.tmps.getD 124 undef, A.tmps.getD 125 undef, A.tmps.getD 126 undef, A.tmps.getD 127 undef, A.tmps.getD 128 undef, A.tmps.getD 129 undef, A.tmps.getD 130 undef, A.tmps.getD 131 undef, A.tmps.getD 132 undef, A.tmps.getD 133 undef, A.tmps.getD 134 undef, A.tmps.getD 135 undef, A.tmps.getD 136 undef, A.tmps.getD 137 undef, A.tmps.getD 138 undef, A.tmps.getD 139 undef, A.tmps.getD 140 undef, A.tmps.getD 141 undef, A.tmps.getD 142 undef, A.tmps.getD 143 undef, A.tmps.getD 144 undef, A.tmps.getD 145 undef, A.tmps.getD 146 undef, A.tmps.getD 147 undef, A.tmps.getD 148 undef, A.tmps.getD 149 undef, A.tmps.getD 150 undef, A.tmps.getD 151 undef, A.tmps.getD 152 undef, A.tmps.getD 153 undef, A.tmps.getD 154 undef, A.tmps.getD 155 undef, A.tmps.getD 156 undef, A.tmps.getD 157 undef, A.tmps.getD 158 undef, A.tmps.getD 159 undef, A.tmps.getD 160 undef, A.tmps.getD 161 undef, A.tmps.getD 162 undef, A.tmps.getD 163 undef, A.tmps.getD 164 undef, A.tmps.getD 165 undef, A.tmps.getD 166 undef, A.tmps.getD 167 undef, A.tmps.getD 168 undef, A.tmps.getD 169 undef, A.tmps.getD 170 undef, A.tmps.getD 171 undef, A.tmps.getD 172 undef, A.tmps.getD 173 undef, A.tmps.getD 174 undef, A.tmps.getD 175 undef], []⟩) : (Code.loop (loopAt Try.f6 2)).wp Try.prog Q A w :=
  wp_loop (fun A w => ∃ m, ooI w0 n g gv F G L M m A w) (oo_togo (n)) ⟨0, oo_intro  (Nat.zero_le _) hf hA⟩ (fun A w' h => oo_round hs hn Q hQ A w' h)

end Go.Proofs.Ytfnidfbogkfaeaa
