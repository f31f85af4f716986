/-
  UnionOrder: the loop that puts them together the other way round.
-/
import Derived.Test.YtfnidfbogkfaeaaUk
namespace Go.Proofs.Ytfnidfbogkfaeaa
open Go.RowKit Go.Deep
set_option linter.unusedVariables false


set_option maxRecDepth 1000000 in
/-- Where the loop stands: so many steps of the script are still to come. -/
def odI (w0 : World) (n g : Nat) (a : Option Addr) (la ca : Nat) (c8 : Value) (X : Nat → World → (Nat → Prop) → List (Nat × Nat) → Prop) (j : Nat) (A : Act) (w : World) : Prop :=
  ∃ (U : Nat → Value) (F : Nat → Prop) (L : List (Nat × Nat)), j ≤ la ∧ UAt w0.heap.size n w g F L ∧ Below w0.heap.size w0 w ∧ X j w F L ∧ A = ⟨#[.int .i64 (n : Nat), .slice a la ca, U 2, U 3, U 4, U 5, U 6, U 7, c8, U 9, .pointer (some ⟨g, 0, none⟩), U 11, U 12, .int .i64 ((j : Nat) - 1 : Int), U 14, U 15, U 16, U 17, U 18, U 19, U 20, U 21, U 22, U 23, U 24, U 25, U 26, U 27, U 28, U 29, U 30, U 31, U 32, U 33, U 34, U 35, U 36, U 37, U 38, U 39, U 40, U 41, U 42, U 43, U 44, U 45, U 46, U 47, U 48, U 49, U 50, U 51, U 52, U 53, U 54, U 55, U 56, U 57, U 58, U 59, U 60, U 61, U 62, U 63, U 64, U 65, U 66, U 67, U 68, U 69, U 70, U 71, U 72, U 73, U 74, U 75, U 76, U 77, U 78, U 79, U 80, U 81, U 82, U 83, U 84, U 85, U 86, U 87, U 88, U 89, U 90, U 91, U 92, U 93, U 94, U 95, U 96, U 97, U 98, U 99, U 100, U 101, U 102, U 103, U 104, U 105, U 106, U 107, U 108, U 109, U 110, U 111, U 112, U 113, U 114, U 115, U 116, U 117, U 118, U 119, U 120, U 121, U 122, U 123, U 124, U 125, U 126, U 127, U 128, U 129, U 130, U 131, U 132, U 133, U 134, U 135, U 136, U 137, U 138, U 139, U 140, U 141, U 142, U 143, U 144, U 145, U 146, U 147, U 148, U 149, U 150, U 151, U 152, U 153, U 154, U 155, U 156, U 157, U 158, U 159, U 160, U 161, U 162, U 163, U 164, U 165, U 166, U 167, U 168, U 169, U 170, U 171, U 172, U 173, U 174, U 175], []⟩

set_option maxRecDepth 1000000 in
theorem od_intro {w0 : World} {n g : Nat} {a : Option Addr} {la ca : Nat} {c8 : Value} {X : Nat → World → (Nat → Prop) → List (Nat × Nat) → Prop} {j : Nat} {A : Act} {w : World} (F : Nat → Prop) (L : List (Nat × Nat)) (h1 : j ≤ la) (hu : UAt w0.heap.size n w g F L) (hb : Below w0.heap.size w0 w) (hx : X j w F L)
    (h : A = ⟨#[.int .i64 (n : Nat), .slice a la ca, A.tmps.getD 2 undef, A.tmps.getD 3 undef, A.tmps.getD 4 undef, A.tmps.getD 5 undef, A.tmps.getD 6 undef, A.tmps.getD 7 undef, c8, A.tmps.getD 9 undef, .pointer (some ⟨g, 0, none⟩), A.tmps.getD 11 undef, A.tmps.getD 12 undef, .int .i64 ((j : Nat) - 1 : Int), A.tmps.getD 14 undef, A.tmps.getD 15 undef, A.tmps.getD 16 undef, A.tmps.getD 17 undef, A.tmps.getD 18 undef, A.tmps.getD 19 undef, A.tmps.getD 20 undef, A.tmps.getD 21 undef, A.tmps.getD 22 undef, A.tmps.getD 23 undef, A.tmps.getD 24 undef, A.tmps.getD 25 undef, A.tmps.getD 26 undef, A.tmps.getD 27 undef, A.tmps.getD 28 undef, A.tmps.getD 29 undef, A.tmps.getD 30 undef, A.tmps.getD 31 undef, A.tmps.getD 32 undef, A.tmps.getD 33 undef, A.tmps.getD 34 undef, A.tmps.getD 35 undef, A.tmps.getD 36 undef, A.tmps.getD 37 undef, A.tmps.getD 38 undef, A.tmps.getD 39 undef, A.tmps.getD 40 undef, A.tmps.getD 41 undef, A.tmps.getD 42 undef, A.tmps.getD 43 undef, A.tmps.getD 44 undef, A.tmps.getD 45 undef, A.tmps.getD 46 undef, A.tmps.getD 47 undef, A.tmps.getD 48 undef, A.tmps.getD 49 undef, A.tmps.getD 50 undef, A.tmps.getD 51 undef, A.tmps.getD 52 undef, A.tmps.getD 53 undef, A.tmps.getD 54 undef, A.tmps.getD 55 undef, A.tmps.getD 56 undef, A.tmps.getD 57 undef, A.tmps.getD 58 undef, A.tmps.getD 59 undef, A.tmps.getD 60 undef, A.tmps.getD 61 undef, A.tmps.getD 62 undef, A.tmps.getD 63 undef, A.tmps.getD 64 undef, A.tmps.getD 65 undef, A.tmps.getD 66 undef, A.tmps.getD 67 undef, A.tmps.getD 68 undef, A.tmps.getD 69 undef, A.tmps.getD 70 undef, A.tmps.getD 71 undef, A.tmps.getD 72 undef, A.tmps.getD 73 undef, A.tmps.getD 74 undef, A.tmps.getD 75 undef, A.tmps.getD 76 undef, A.tmps.getD 77 undef, A.tmps.getD 78 undef, A.tmps.getD 79 undef, A.tmps.getD 80 undef, A.tmps.getD 81 undef, A.tmps.getD 82 undef, A.tmps.getD 83 undef, A.tmps.getD 84 undef, A.tmps.getD 85 undef, A.tmps.getD 86 undef, A.tmps.getD 87 undef, A.tmps.getD 88 undef, A.tmps.getD 89 undef, A.tmps.getD 90 undef, A.tmps.getD 91 undef, A.tmps.getD 92 undef, A.tmps.getD 93 undef, A.tmps.getD 94 undef, A.tmps.getD 95 undef, A.tmps.getD 96 undef, A.tmps.getD 97 undef, A.tmps.getD 98 undef, A.tmps.getD 99 undef, A.tmps.getD 100 undef, A.tmps.getD 101 undef, A.tmps.getD 102 undef, A.tmps.getD 103 undef, A.tmps.getD 104 undef, A.tmps.getD 105 undef, A.tmps.getD 106 undef, A.tmps.getD 107 undef, A.tmps.getD 108 undef, A.tmps.getD 109 undef, A.tmps.getD 110 undef, A.tmps.getD 111 undef, A.tmps.getD 112 undef, A.tmps.getD 113 undef, A.tmps.getD 114 undef, A.tmps.getD 115 undef, A.tmps.getD 116 undef, A.tmps.getD 117 undef, A.tmps.getD 118 undef, A.tmps.getD 119 undef, A.tmps.getD 120 undef, A.tmps.getD 121 undef, A.tmps.getD 122 undef, A.tmps.getD 123 undef, A.tmps.getD 124 undef, A.tmps.getD 125 undef, A.tmps.getD 126 undef, A.tmps.getD 127 undef, A.tmps.getD 128 undef, A.tmps.getD 129 undef, A.tmps.getD 130 undef, A.tmps.getD 131 undef, A.tmps.getD 132 undef, A.tmps.getD 133 undef, A.tmps.getD 134 undef, A.tmps.getD 135 undef, A.tmps.getD 136 undef, A.tmps.getD 137 undef, A.tmps.getD 138 undef, A.tmps.getD 139 undef, A.tmps.getD 140 undef, A.tmps.getD 141 undef, A.tmps.getD 142 undef, A.tmps.getD 143 undef, A.tmps.getD 144 undef, A.tmps.getD 145 undef, A.tmps.getD 146 undef, A.tmps.getD 147 undef, A.tmps.getD 148 undef, A.tmps.getD 149 undef, A.tmps.getD 150 undef, A.tmps.getD 151 undef, A.tmps.getD 152 undef, A.tmps.getD 153 undef, A.tmps.getD 154 undef, A.tmps.getD 155 undef, A.tmps.getD 156 undef, A.tmps.getD 157 undef, A.tmps.getD 158 undef, A.tmps.getD 159 undef, A.tmps.getD 160 undef, A.tmps.getD 161 undef, A.tmps.getD 162 undef, A.tmps.getD 163 undef, A.tmps.getD 164 undef, A.tmps.getD 165 undef, A.tmps.getD 166 undef, A.tmps.getD 167 undef, A.tmps.getD 168 undef, A.tmps.getD 169 undef, A.tmps.getD 170 undef, A.tmps.getD 171 undef, A.tmps.getD 172 undef, A.tmps.getD 173 undef, A.tmps.getD 174 undef, A.tmps.getD 175 undef], []⟩) : odI w0 n g a la ca c8 X j A w :=
  ⟨fun k => A.tmps.getD k undef, F, L, h1, hu, hb, hx, h⟩

/-- What is kept from round to round. -/
def odX (w0 : World) (n g : Nat) (f : Nat → Int × Int) (la : Nat) (X : Nat → World → (Nat → Prop) → List (Nat × Nat) → Prop) : Prop :=
  ∀ m w F L w' F' L', m < la → m < 60 → X (m + 1) w F L → UAt w0.heap.size n w g F L → Moves F w w' F' → UAt w0.heap.size n w' g F' L' → Joins n (f m).2 (f m).1 L L' → X m w' F' L'

set_option maxRecDepth 1000000 in
set_option maxHeartbeats 4000000 in
theorem od_go {w0 : World} {n g : Nat} {a : Option Addr} {la ca : Nat} {c8 : Value} {U : Nat → Value} {X : Nat → World → (Nat → Prop) → List (Nat × Nat) → Prop} {f : Nat → Int × Int} {m : Nat} {w : World} {F : Nat → Prop} {L : List (Nat × Nat)} (hs : ScriptAt w0 a la f) (hX : odX w0 n g f la X)
    (hm : m < la) (hm2 : m < 60) (hu : UAt w0.heap.size n w g F L) (hb : Below w0.heap.size w0 w) (hx : X (m + 1) w F L) (K : Act → World → Prop) (Q : Exit → Act → World → Prop) (hK : ∀ A w', odI w0 n g a la ca c8 X m A w' → K A w') :
    (loopAt Try.f6 1).wp Try.prog (Exit.then K Q) ⟨#[.int .i64 (n : Nat), .slice a la ca, U 2, U 3, U 4, U 5, U 6, U 7, c8, U 9, .pointer (some ⟨g, 0, none⟩), U 11, U 12, .int .i64 (m : Nat), U 14, U 15, U 16, U 17, U 18, U 19, U 20, U 21, U 22, U 23, U 24, U 25, U 26, U 27, U 28, U 29, U 30, U 31, U 32, U 33, U 34, U 35, U 36, U 37, U 38, U 39, U 40, U 41, U 42, U 43, U 44, U 45, U 46, U 47, U 48, U 49, U 50, U 51, U 52, U 53, U 54, U 55, U 56, U 57, U 58, U 59, U 60, U 61, U 62, U 63, U 64, U 65, U 66, U 67, U 68, U 69, U 70, U 71, U 72, U 73, U 74, U 75, U 76, U 77, U 78, U 79, U 80, U 81, U 82, U 83, U 84, U 85, U 86, U 87, U 88, U 89, U 90, U 91, U 92, U 93, U 94, U 95, U 96, U 97, U 98, U 99, U 100, U 101, U 102, U 103, U 104, U 105, U 106, U 107, U 108, U 109, U 110, U 111, U 112, U 113, U 114, U 115, U 116, U 117, U 118, U 119, U 120, U 121, U 122, U 123, U 124, U 125, U 126, U 127, U 128, U 129, U 130, U 131, U 132, U 133, U 134, U 135, U 136, U 137, U 138, U 139, U 140, U 141, U 142, U 143, U 144, U 145, U 146, U 147, U 148, U 149, U 150, U 151, U 152, U 153, U 154, U 155, U 156, U 157, U 158, U 159, U 160, U 161, U 162, U 163, U 164, U 165, U 166, U 167, U 168, U 169, U 170, U 171, U 172, U 173, U 174, U 175], []⟩ w := by
  obtain ⟨b, o, rfl, q1, q2⟩ := hs m hm
  have hXm := hX m w F L
  have HK : Hid (∀ A w', odI w0 n g (some ⟨b, o, none⟩) la ca c8 X m A w' → K A w') := hK
  clear hX hK hs
  generalize (f m).1 = x at *
  generalize (f m).2 = y at *
  have HX : Hid (∀ (w' : World) (F' : Nat → Prop) (L' : List (Nat × Nat)), Moves F w w' F' → UAt w0.heap.size n w' g F' L' → Joins n y x L L' → X m w' F' L') := fun w' F' L' h1 h2 h3 => hXm w' F' L' hm hm2 hx hu h1 h2 h3
  have HU : Hid (UAt w0.heap.size n w g F L) := hu
  have HB : Hid (Below w0.heap.size w0 w) := hb
  have k1 := cell_keep hb q1
  have k2 := cell_keep hb q2
  have i0 : (0 : Int) ≤ (m : Int) := by omega
  have i1 : (m : Int) < (la : Int) := by omega
  clear hXm hu hb hx
  conv => arg 2; whnf
  go_wp2_with fail
  go_region_held3 (fun W => W.cell? ⟨b, o + m * 4 + 1, none⟩ = some (.int .i64 x) ∧ W.cell? ⟨b, o + m * 4 + 2, none⟩ = some (.int .i64 y)) (first | exact ⟨k1, k2⟩ | exact ⟨cell_keep hb2 q1, cell_keep hb2 q2⟩)
    (first
      | (go_at_call 15; refine (join_u (HU.out.below (Below.refl _ _).drew) HB.out.size y x).mono ?_; rintro e w1 ⟨_, _, F', L', rfl, hu2, hm3, hj, _⟩; have hb2 : Below w0.heap.size w0 w1 := Moves.below HB.out.drew HB.out.size (fun k hk => (HU.out.lt hk).2) hm3))
  have hm4 : Moves F w w1 F' := (Moves.of_below (Below.refl _ _).drew).trans hm3
  clear hm3
  go_wp2_with fail
  exact HK.out _ _ (od_intro F' L' (by omega) hu2 hb2 (HX.out _ _ _ hm4 hu2 hj) rfl)

set_option maxRecDepth 1000000 in
set_option maxHeartbeats 4000000 in
theorem od_pass {w0 : World} {n g : Nat} {a : Option Addr} {la ca : Nat} {c8 : Value} {U : Nat → Value} {X : Nat → World → (Nat → Prop) → List (Nat × Nat) → Prop} {m : Nat} {w : World} {F : Nat → Prop} {L : List (Nat × Nat)}
    (hla : la ≤ 9223372036854775807) (hm : m < la) (hm2 : ¬ m < 60) (hu : UAt w0.heap.size n w g F L) (hb : Below w0.heap.size w0 w) (hx : X m w F L) (K : Act → World → Prop) (Q : Exit → Act → World → Prop) (hK : ∀ A w', odI w0 n g a la ca c8 X m A w' → K A w') :
    (loopAt Try.f6 1).wp Try.prog (Exit.then K Q) ⟨#[.int .i64 (n : Nat), .slice a la ca, U 2, U 3, U 4, U 5, U 6, U 7, c8, U 9, .pointer (some ⟨g, 0, none⟩), U 11, U 12, .int .i64 (m : Nat), U 14, U 15, U 16, U 17, U 18, U 19, U 20, U 21, U 22, U 23, U 24, U 25, U 26, U 27, U 28, U 29, U 30, U 31, U 32, U 33, U 34, U 35, U 36, U 37, U 38, U 39, U 40, U 41, U 42, U 43, U 44, U 45, U 46, U 47, U 48, U 49, U 50, U 51, U 52, U 53, U 54, U 55, U 56, U 57, U 58, U 59, U 60, U 61, U 62, U 63, U 64, U 65, U 66, U 67, U 68, U 69, U 70, U 71, U 72, U 73, U 74, U 75, U 76, U 77, U 78, U 79, U 80, U 81, U 82, U 83, U 84, U 85, U 86, U 87, U 88, U 89, U 90, U 91, U 92, U 93, U 94, U 95, U 96, U 97, U 98, U 99, U 100, U 101, U 102, U 103, U 104, U 105, U 106, U 107, U 108, U 109, U 110, U 111, U 112, U 113, U 114, U 115, U 116, U 117, U 118, U 119, U 120, U 121, U 122, U 123, U 124, U 125, U 126, U 127, U 128, U 129, U 130, U 131, U 132, U 133, U 134, U 135, U 136, U 137, U 138, U 139, U 140, U 141, U 142, U 143, U 144, U 145, U 146, U 147, U 148, U 149, U 150, U 151, U 152, U 153, U 154, U 155, U 156, U 157, U 158, U 159, U 160, U 161, U 162, U 163, U 164, U 165, U 166, U 167, U 168, U 169, U 170, U 171, U 172, U 173, U 174, U 175], []⟩ w := by
  have HK : Hid (∀ A w', odI w0 n g a la ca c8 X m A w' → K A w') := hK
  have HU : Hid (UAt w0.heap.size n w g F L) := hu
  have HB : Hid (Below w0.heap.size w0 w) := hb
  have HX : Hid (X m w F L) := hx
  clear hK hu hb hx
  conv => arg 2; whnf
  go_wp2_with fail
  exact HK.out _ _ (od_intro F L (by omega) HU.out HB.out HX.out rfl)

set_option maxRecDepth 1000000 in
set_option maxHeartbeats 4000000 in
theorem od_end {w0 : World} {n g : Nat} {a : Option Addr} {la ca : Nat} {c8 : Value} {U : Nat → Value} {X : Nat → World → (Nat → Prop) → List (Nat × Nat) → Prop} {w : World} {F : Nat → Prop} {L : List (Nat × Nat)}
    (hu : UAt w0.heap.size n w g F L) (hb : Below w0.heap.size w0 w) (hx : X 0 w F L) (K : Act → World → Prop) (Q : Exit → Act → World → Prop) (hQ : ∀ A w', odI w0 n g a la ca c8 X 0 A w' → Q (.exit 2) A w') :
    (loopAt Try.f6 1).wp Try.prog (Exit.then K Q) ⟨#[.int .i64 (n : Nat), .slice a la ca, U 2, U 3, U 4, U 5, U 6, U 7, c8, U 9, .pointer (some ⟨g, 0, none⟩), U 11, U 12, .int .i64 (-1), U 14, U 15, U 16, U 17, U 18, U 19, U 20, U 21, U 22, U 23, U 24, U 25, U 26, U 27, U 28, U 29, U 30, U 31, U 32, U 33, U 34, U 35, U 36, U 37, U 38, U 39, U 40, U 41, U 42, U 43, U 44, U 45, U 46, U 47, U 48, U 49, U 50, U 51, U 52, U 53, U 54, U 55, U 56, U 57, U 58, U 59, U 60, U 61, U 62, U 63, U 64, U 65, U 66, U 67, U 68, U 69, U 70, U 71, U 72, U 73, U 74, U 75, U 76, U 77, U 78, U 79, U 80, U 81, U 82, U 83, U 84, U 85, U 86, U 87, U 88, U 89, U 90, U 91, U 92, U 93, U 94, U 95, U 96, U 97, U 98, U 99, U 100, U 101, U 102, U 103, U 104, U 105, U 106, U 107, U 108, U 109, U 110, U 111, U 112, U 113, U 114, U 115, U 116, U 117, U 118, U 119, U 120, U 121, U 122, U 123, U 124, U 125, U 126, U 127, U 128, U 129, U 130, U 131, U 132, U 133, U 134, U 135, U 136, U 137, U 138, U 139, U 140, U 141, U 142, U 143, U 144, U 145, U 146, U 147, U 148, U 149, U 150, U 151, U 152, U 153, U 154, U 155, U 156, U 157, U 158, U 159, U 160, U 161, U 162, U 163, U 164, U 165, U 166, U 167, U 168, U 169, U 170, U 171, U 172, U 173, U 174, U 175], []⟩ w := by
  have HQ : Hid (∀ A w', odI w0 n g a la ca c8 X 0 A w' → Q (.exit 2) A w') := hQ
  have HU : Hid (UAt w0.heap.size n w g F L) := hu
  have HB : Hid (Below w0.heap.size w0 w) := hb
  have HX : Hid (X 0 w F L) := hx
  clear hQ hu hb hx
  conv => arg 2; whnf
  go_wp2_with fail
  exact HQ.out _ _ (od_intro F L (Nat.zero_le _) HU.out HB.out HX.out rfl)

/-- How many rounds are still to come. -/
def od_togo (A : Act) (_w : World) : Nat := (intOf (A.tmps.getD 13 undef) + 1).toNat

set_option maxRecDepth 1000000 in
theorem od_togo_is {w0 : World} {n g : Nat} {a : Option Addr} {la ca : Nat} {c8 : Value} {X : Nat → World → (Nat → Prop) → List (Nat × Nat) → Prop} {j : Nat} {A : Act} {w : World} (h : odI w0 n g a la ca c8 X j A w) : od_togo A w = j := by
  obtain ⟨U, F, L, _, _, _, _, rfl⟩ := h
  show (((j : Nat) : Int) - 1 + 1).toNat = j
  omega

set_option maxRecDepth 1000000 in
theorem od_round {w0 : World} {n g : Nat} {a : Option Addr} {la ca : Nat} {c8 : Value} {X : Nat → World → (Nat → Prop) → List (Nat × Nat) → Prop} {f : Nat → Int × Int} (hs : ScriptAt w0 a la f) (hX : odX w0 n g f la X) (hX2 : ∀ m w F L, m < la → ¬ m < 60 → X (m + 1) w F L → X m w F L) (hla : la ≤ 9223372036854775807)
    (Q : Exit → Act → World → Prop) (hQ : ∀ A w', odI w0 n g a la ca c8 X 0 A w' → Q (.exit 2) A w') (A : Act) (w : World) (h : ∃ j, odI w0 n g a la ca c8 X j A w) :
    (loopAt Try.f6 1).wp Try.prog (Exit.then (fun A' w' => (∃ j, odI w0 n g a la ca c8 X j A' w') ∧ od_togo A' w' < od_togo A w) Q) A w := by
  obtain ⟨j, hI⟩ := h
  have ht := od_togo_is hI
  obtain ⟨U, F, L, h1, hu, hb, hx, rfl⟩ := hI
  cases j with
  | zero => exact od_end hu hb hx _ _ hQ
  | succ m =>
    rw [ht]
    rw [show (((m + 1 : Nat) : Int) - 1) = (m : Int) from by omega]
    by_cases h60 : m < 60
    · refine od_go hs hX (by omega) h60 hu hb hx _ _ fun A' w' h' => ⟨⟨m, h'⟩, ?_⟩
      rw [od_togo_is h']
      omega
    · refine od_pass hla (by omega) h60 hu hb (hX2 m w F L (by omega) h60 hx) _ _ fun A' w' h' => ⟨⟨m, h'⟩, ?_⟩
      rw [od_togo_is h']
      omega

set_option maxRecDepth 1000000 in
theorem od_loop {w0 : World} {n g : Nat} {a : Option Addr} {la ca : Nat} {c8 : Value} {X : Nat → World → (Nat → Prop) → List (Nat × Nat) → Prop} {f : Nat → Int × Int} (hs : ScriptAt w0 a la f) (hX : odX w0 n g f la X) (hX2 : ∀ m w F L, m < la → ¬ m < 60 → X (m + 1) w F L → X m w F L) (hla : la ≤ 9223372036854775807)
    {F : Nat → Prop} {L : List (Nat × Nat)} {w : World} (hu : UAt w0.heap.size n w g F L) (hb : Below w0.heap.size w0 w) (hx : X la w F L)
    (Q : Exit → Act → World → Prop) (hQ : ∀ A w', odI w0 n g a la ca c8 X 0 A w' → Q (.exit 2) A w') {A : Act} (hA : A = ⟨#[.int .i64 (n : Nat), .slice a la ca, A.tmps.getD 2 undef, A.tmps.getD 3 undef, A.tmps.getD 4 undef, A.tmps.getD 5 undef, A.tmps.getD 6 undef, A.tmps.getD 7 undef, c8, A.tmps.getD 9 undef, .pointer (some ⟨g, 0, none⟩), A.tmps.getD 11 undef, A.tmps.getD 12 undef, .int .i64 ((la : Nat) - 1 : Int), A.tmps.getD 14 undef, A.tmps.getD 15 undef, A.tmps.getD 16 undef, A.tmps.getD 17 undef, A.tmps.getD 18 undef, A.tmps.getD 19 undef, A.tmps.getD 20 undef, A.tmps.getD 21 undef, A.tmps.getD 22 undef, A.tmps.getD 23 undef, A.tmps.getD 24 undef, A.tmps.getD 25 undef, A.tmps.getD 26 undef, A.tmps.getD 27 undef, A.tmps.getD 28 undef, A.tmps.getD 29 undef, A.tmps.getD 30 undef, A.tmps.getD 31 undef, A.tmps.getD 32 undef, A.tmps.getD 33 undef, A.tmps.getD 34 undef, A.tmps.getD 35 undef, A.tmps.getD 36 undef, A.tmps.getD 37 undef, A.tmps.getD 38 undef, A.tmps.getD 39 undef, A.tmps.getD 40 undef, A.tmps.getD 41 undef, A.tmps.getD 42 undef, A.tmps.getD 43 undef, A.tmps.getD 44 undef, A.tmps.getD 45 undef, A.tmps.getD 46 undef, A.tmps.getD 47 undef, A.tmps.getD 48 undef, A.tmps.getD 49 undef, A.tmps.getD 50 undef, A.tmps.getD 51 undef, A.tmps.getD 52 undef, A.tmps.getD 53 undef, A.tmps.getD 54 undef, A.tmps.getD 55 undef, A.tmps.getD 56 undef, A.tmps.getD 57 undef, A.tmps.getD 58 undef, A.tmps.getD 59 undef, A.tmps.getD 60 undef, A.tmps.getD 61 undef, A.tmps.getD 62 undef, A.tmps.getD 63 undef, A.tmps.getD 64 undef, A.tmps.getD 65 undef, A.tmps.getD 66 undef, A.tmps.getD 67 undef, A.tmps.getD 68 undef, A.tmps.getD 69 undef, A.tmps.getD 70 undef, A.tmps.getD 71 undef, A.tmps.getD 72 undef, A.tmps.getD 73 undef, A.tmps.getD 74 undef, A.tmps.getD 75 undef, A.tmps.getD 76 undef, A.tmps.getD 77 undef, A.tmps.getD 78 undef, A.tmps.getD 79 undef, A.tmps.getD 80 undef, A.tmps.getD 81 undef, A.tmps.getD 82 undef, A.tmps.getD 83 undef, A.tmps.getD 84 undef, A.tmps.getD 85 undef, A.tmps.getD 86 undef, A.tmps.getD 87 undef, A.tmps.getD 88 undef, A.tmps.getD 89 undef, A.tmps.getD 90 undef, A.tmps.getD 91 undef, A.tmps.getD 92 undef, A.tmps.getD 93 undef, A.tmps.getD 94 undef, A.tmps.getD 95 undef, A.tmps.getD 96 undef, A.tmps.getD 97 undef, A.tmps.getD 98 undef, A.tmps.getD 99 undef, A.tmps.getD 100 undef, A.tmps.getD 101 undef, A.tmps.getD 102 undef, A.tmps.getD 103 undef, A.tmps.getD 104 undef, A.tmps.getD 105 undef, A.tmps.getD 106 undef, A.tmps.getD 107 undef, A.tmps.getD 108 undef, A.tmps.getD 109 undef, A.tmps.getD 110 undef, A.tmps.getD 111 undef, A.tmps.getD 112 undef, A.tmps.getD 113 undef, A.tmps.getD 114 undef, A.tmps.getD 115 undef, A.tmps.getD 116 undef, A.tmps.getD 117 undef, A.tmps.getD 118 undef, A.tmps.getD 119 undef, A.tmps.getD 120 undef, A.tmps.getD 121 undef, A.tmps.getD 122 undef, A.tmps.getD 123 undef, A.tmps.getD 124 undef, A.tmps.getD 125 undef, A.tmps.getD 126 undef, A.tmps.getD 127 undef, A.tmps.getD 128 undef, A.tmps.getD 129 undef, A.tmps.getD 130 undef, A.tmps.getD 131 undef, A.tmps.getD 132 undef, A.tmps.getD 133 undef, A.tmps.getD 134 undef, A.tmps.getD 135 undef, A.tmps.getD 136 undef, A.tmps.getD 137 undef, A.tmps.getD 138 undef, A.tmps.getD 139 undef, A.tmps.getD 140 undef, A.tmps.getD 141 undef, A.tmps.getD 142 undef, A.tmps.getD 143 undef, A.tmps.getD 144 undef, A.tmps.getD 145 undef, A.tmps.getD 146 undef, A.tmps.getD 147 undef, A.tmps.getD 148 undef, A.tmps.getD 149 undef, A.tmps.getD 150 undef, A.tmps.getD 151 undef, A.tmps.getD 152 undef, A.tmps.getD 153 undef, A.tmps.getD 154 undef, A.tmps.getD 155 undef, A.tmps.getD 156 undef, A.tmps.getD 157 undef, A.tmps.getD 158 undef, A.tmps.getD 159 undef, A.tmps.getD 160 undef, A.tmps.getD 161 undef, A.tmps.getD 162 undef, A.tmps.getD 163 undef, A.tmps.getD 164 undef, A.tmps.getD 165 undef, A.tmps.getD 166 undef, A.tmps.getD 167 undef, A.tmps.getD 168 undef, A.tmps.getD 169 undef, A.tmps.getD 170 undef, A.tmps.getD 171 undef, A.tmps.getD 172 undef, A.tmps.getD 173 undef, A.tmps.getD 174 undef, A.tmps.getD 175 undef], []⟩) : (Code.loop (loopAt Try.f6 1)).wp Try.prog Q A w :=
  wp_loop (fun A w => ∃ j, odI w0 n g a la ca c8 X j A w) od_togo ⟨la, od_intro F L (Nat.le_refl _) hu hb hx hA⟩ (fun A w' h => od_round hs hX hX2 hla Q hQ A w' h)

end Go.Proofs.Ytfnidfbogkfaeaa
