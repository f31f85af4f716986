/-
  Ya Da Db
-/
import Derived.Test.YtcfemppdeidjmacGreatW18
import Derived.Test.YtcfemppdeidjmacGreatW4
import Derived.RowKitTokens
import Derived.Below
import Derived.BigQuiet
import Derived.BigRegion
import Derived.Deep.AppendLies
import Derived.Deep.OwnRows
import Derived.ProofKit
import Derived.OpenShut
import Derived.Deep.Slices
import Derived.Test.YtcfemppdeidjmacGreatChecked
namespace Go.Proofs.YtcfemppdeidjmacGreat.Ds
open Go.Proofs.YtcfemppdeidjmacGreat.Br
set_option linter.unusedVariables false

def IsN (n : Nat) (x : Int) : Prop := 0 ≤ x ∧ x < n
def pr (x y : Int) : Nat × Nat := (min x.toNat y.toNat, max x.toNat y.toNat)
def Jn (A : List (Nat × Nat)) (x y : Int) : Prop := Conn A x.toNat y.toNat

abbrev Ev := Int × Int × Int

def One (n : Nat) (A : List (Nat × Nat)) (e : Ev) (err : Int) (A' : List (Nat × Nat)) (out : List Bool) : Prop :=
  (¬ ((1 ≤ e.1 ∧ e.1 ≤ 3) ∧ IsN n e.2.1 ∧ IsN n e.2.2) ∧ err = 1) ∨
  ((e.1 = 1 ∧ IsN n e.2.1 ∧ IsN n e.2.2) ∧ e.2.1 = e.2.2 ∧ err = 2) ∨
  ((e.1 = 1 ∧ IsN n e.2.1 ∧ IsN n e.2.2) ∧ e.2.1 ≠ e.2.2 ∧ pr e.2.1 e.2.2 ∈ A ∧ err = 6) ∨
  ((e.1 = 1 ∧ IsN n e.2.1 ∧ IsN n e.2.2) ∧ e.2.1 ≠ e.2.2 ∧ pr e.2.1 e.2.2 ∉ A ∧ 200 ≤ A.length ∧ err = 3) ∨
  ((e.1 = 1 ∧ IsN n e.2.1 ∧ IsN n e.2.2) ∧ e.2.1 ≠ e.2.2 ∧ pr e.2.1 e.2.2 ∉ A ∧ A.length < 200 ∧ err = 0 ∧ Up A' ∧ A'.Perm (pr e.2.1 e.2.2 :: A) ∧ out = []) ∨
  ((e.1 = 2 ∧ IsN n e.2.1 ∧ IsN n e.2.2) ∧ pr e.2.1 e.2.2 ∉ A ∧ err = 4) ∨
  ((e.1 = 2 ∧ IsN n e.2.1 ∧ IsN n e.2.2) ∧ pr e.2.1 e.2.2 ∈ A ∧ err = 0 ∧ Up A' ∧ A.Perm (pr e.2.1 e.2.2 :: A') ∧ out = []) ∨
  ((e.1 = 3 ∧ IsN n e.2.1 ∧ IsN n e.2.2) ∧ err = 0 ∧ A' = A ∧ ∃ q : Bool, (q = true ↔ Jn A e.2.1 e.2.2) ∧ out = [q])

def All (n : Nat) : List Ev → List (Nat × Nat) → Int → List (Nat × Nat) → List Bool → Prop
  | [], A, err, A', out => err = 0 ∧ A' = A ∧ out = []
  | e :: r, A, err, A', out => (err ≠ 0 ∧ ∃ B o, One n A e err B o) ∨ (∃ B o1 o2, One n A e 0 B o1 ∧ All n r B err A' o2 ∧ out = o1 ++ o2)

def Does (n : Nat) (A : List (Nat × Nat)) (l : List Ev) (err : Int) (A' : List (Nat × Nat)) (out : List Bool) : Prop :=
  (120 < l.length ∧ err = 3 ∧ A' = A ∧ out = []) ∨ (l.length ≤ 120 ∧ ((err ≠ 0 ∧ A' = A ∧ out = [] ∧ ∃ B o, All n l A err B o) ∨ (err = 0 ∧ All n l A 0 A' out)))

variable {n : Nat} {A A' B B' : List (Nat × Nat)} {e : Ev} {l r : List Ev} {err err' : Int} {out out' o o' : List Bool}

theorem One.rises (h : One n A e 0 A' o) (hr : Up A) : Up A' := by
  rcases h with ⟨_, h⟩ | ⟨_, _, h⟩ | ⟨_, _, _, h⟩ | ⟨_, _, _, _, h⟩ | ⟨_, _, _, _, _, h, _⟩ | ⟨_, _, h⟩ | ⟨_, _, _, h, _⟩ | ⟨_, _, rfl, _⟩
  · omega
  · omega
  · omega
  · omega
  · exact h
  · omega
  · exact h
  · exact hr

theorem up_one {A B : List (Nat × Nat)} (h1 : Up A) (h2 : Up B) (hp : A.Perm B) : A = B := by
  refine List.Perm.eq_of_pairwise (le := fun x y : Nat × Nat => x.1 < y.1 ∨ x.1 = y.1 ∧ x.2 < y.2) (fun a b _ _ q1 q2 => ?_) h1 h2 hp
  omega

theorem One.one (h : One n A e err A' o) (h' : One n A e err' B' o') (hr : Up A) : err = err' ∧ (err = 0 → A' = B' ∧ o = o') := by
  have hb : ∀ {q q' : Bool} {P : Prop}, (q = true ↔ P) → (q' = true ↔ P) → q = q' := fun h1 h2 => Bool.eq_iff_iff.2 (h1.trans h2.symm)
  rcases h with ⟨a1, rfl⟩ | ⟨⟨a1, a2⟩, a3, rfl⟩ | ⟨⟨a1, a2⟩, a3, a4, rfl⟩ | ⟨⟨a1, a2⟩, a3, a4, a5, rfl⟩ | ⟨⟨a1, a2⟩, a3, a4, a5, rfl, a6, a7, rfl⟩ | ⟨⟨a1, a2⟩, a3, rfl⟩ | ⟨⟨a1, a2⟩, a3, rfl, a6, a7, rfl⟩ | ⟨⟨a1, a2⟩, rfl, rfl, q, a4, rfl⟩ <;>
  rcases h' with ⟨b1, rfl⟩ | ⟨⟨b1, b2⟩, b3, rfl⟩ | ⟨⟨b1, b2⟩, b3, b4, rfl⟩ | ⟨⟨b1, b2⟩, b3, b4, b5, rfl⟩ | ⟨⟨b1, b2⟩, b3, b4, b5, rfl, b6, b7, rfl⟩ | ⟨⟨b1, b2⟩, b3, rfl⟩ | ⟨⟨b1, b2⟩, b3, rfl, b6, b7, rfl⟩ | ⟨⟨b1, b2⟩, rfl, rfl, q', b4, rfl⟩ <;>
  first
    | exact ⟨rfl, fun q => by omega⟩
    | (exfalso; first | (exact a1 ⟨by omega, b2⟩) | (exact b1 ⟨by omega, a2⟩) | (exact a3 b3) | (exact b3 a3) | (exact a4 b4) | (exact b4 a4) | omega | (exact a3 b3) | (exact b3 a3))
    | exact ⟨rfl, fun _ => ⟨up_one a6 b6 (a7.trans b7.symm), rfl⟩⟩
    | exact ⟨rfl, fun _ => ⟨up_one a6 b6 ((a7.symm.trans b7).cons_inv), rfl⟩⟩
    | exact ⟨rfl, fun _ => ⟨rfl, by rw [hb a4 b4]⟩⟩

theorem All.one : ∀ {l : List Ev} {A A' B' : List (Nat × Nat)} {err err' : Int} {o o' : List Bool}, All n l A err A' o → All n l A err' B' o' → Up A → err = err' ∧ (err = 0 → A' = B' ∧ o = o')
  | [], _, _, _, _, _, _, _, ⟨h1, h2, h3⟩, ⟨g1, g2, g3⟩, _ => ⟨h1.trans g1.symm, fun _ => ⟨h2.trans g2.symm, h3.trans g3.symm⟩⟩
  | e :: r, A, A', B', err, err', o, o', h, h', hr => by
    rcases h with ⟨h1, B, p, h2⟩ | ⟨B, o1, o2, h1, h2, h3⟩ <;> rcases h' with ⟨g1, C, q, g2⟩ | ⟨C, p1, p2, g1, g2, g3⟩
    · exact ⟨(h2.one g2 hr).1, fun q => absurd q h1⟩
    · exact absurd (h2.one g1 hr).1 h1
    · exact absurd (g2.one h1 hr).1 g1
    · obtain ⟨rfl, rfl⟩ := (h1.one g1 hr).2 rfl
      obtain ⟨e1, e2⟩ := All.one h2 g2 (h1.rises hr)
      exact ⟨e1, fun q => ⟨(e2 q).1, by rw [h3, g3, (e2 q).2]⟩⟩

theorem Does.one (h : Does n A l err A' o) (h' : Does n A l err' B' o') (hr : Up A) : err = err' ∧ A' = B' ∧ o = o' := by
  rcases h with ⟨h1, h2, h3, h4⟩ | ⟨h1, ⟨h2, h3, h4, B, p, h5⟩ | ⟨h2, h3⟩⟩ <;> rcases h' with ⟨g1, g2, g3, g4⟩ | ⟨g1, ⟨g2, g3, g4, C, q, g5⟩ | ⟨g2, g3⟩⟩
  · exact ⟨h2.trans g2.symm, h3.trans g3.symm, h4.trans g4.symm⟩
  · omega
  · omega
  · omega
  · exact ⟨(h5.one g5 hr).1, h3.trans g3.symm, h4.trans g4.symm⟩
  · exact absurd (h5.one g3 hr).1 h2
  · omega
  · exact absurd (g5.one h3 hr).1 g2
  · obtain ⟨_, e⟩ := h3.one g3 hr
    exact ⟨h2.trans g2.symm, e rfl⟩

theorem All.snoc : ∀ {l : List Ev} {A B A' : List (Nat × Nat)} {o o' : List Bool} {e : Ev}, All n l A 0 B o → One n B e 0 A' o' → All n (l ++ [e]) A 0 A' (o ++ o')
  | [], A, B, A', o, o', e, ⟨_, h2, h3⟩, h => Or.inr ⟨A', o', [], h2 ▸ h, ⟨rfl, rfl, rfl⟩, by rw [h3]; simp⟩
  | x :: r, A, B, A', o, o', e, h, h' => by
    rcases h with ⟨h1, _⟩ | ⟨C, o1, o2, h1, h2, h3⟩
    · exact absurd rfl h1
    · exact Or.inr ⟨C, o1, o2 ++ o', h1, h2.snoc h', by rw [h3, List.append_assoc]⟩
theorem All.stop : ∀ {l r : List Ev} {A B C : List (Nat × Nat)} {o o' : List Bool} {e : Ev} {err : Int}, All n l A 0 B o → err ≠ 0 → One n B e err C o' → ∃ o'', All n (l ++ e :: r) A err C o''
  | [], r, A, B, C, o, o', e, err, ⟨_, h2, h3⟩, hne, h => ⟨[], Or.inl ⟨hne, C, o', h2 ▸ h⟩⟩
  | x :: l, r, A, B, C, o, o', e, err, h, hne, h' => by
    rcases h with ⟨h1, _⟩ | ⟨D, o1, o2, h1, h2, h3⟩
    · exact absurd rfl h1
    · obtain ⟨o'', h4⟩ := h2.stop (r := r) hne h'
      exact ⟨_, Or.inr ⟨D, o1, o'', h1, h4, rfl⟩⟩

end Go.Proofs.YtcfemppdeidjmacGreat.Ds

namespace Go.Proofs.YtcfemppdeidjmacGreat.Dk
set_option linter.unusedVariables false

def pad (l : List UInt8) : List UInt8 := l ++ List.replicate (32 - l.length) 0
def blank : List UInt8 := List.replicate 32 0

theorem pad_len {l : List UInt8} (h : l.length ≤ 32) : (pad l).length = 32 := by simp [pad]; omega
theorem blank_len : blank.length = 32 := by simp [blank]
def upd (f : Nat → List UInt8) (a : Nat) (p : List UInt8) : Nat → List UInt8 := fun i => if i = a then p else f i
theorem upd_same (f : Nat → List UInt8) (a : Nat) (p : List UInt8) : upd f a p a = p := if_pos rfl
theorem upd_other (f : Nat → List UInt8) {a i : Nat} (p : List UInt8) (h : i ≠ a) : upd f a p i = f i := if_neg h

structure St where
  kept : Nat → List UInt8
  now : Nat → List UInt8
  wr : List (Nat × List UInt8)
  left : Int
  down : Bool

def fresh : St := ⟨fun _ => blank, fun _ => blank, [], -1, false⟩

def Off (s : St) : Prop := s.down = true ∨ s.left = 0
def fall (s : St) : St := { s with down := true }
def less (s : St) : St := { s with left := if 0 < s.left then s.left - 1 else s.left }
def wrote (s : St) (a : Nat) (p : List UInt8) : St := { less s with now := upd s.now a p, wr := s.wr ++ [(a, p)] }
def synced (s : St) : St := { less s with kept := s.now, wr := [] }
def play (q : Nat → Bool) : Nat → List (Nat × List UInt8) → (Nat → List UInt8) → (Nat → List UInt8)
  | _, [], f => f
  | i, (a, p) :: r, f => play q (i + 1) r (if q i then upd f a p else f)
def crashed (s : St) (q : Nat → Bool) : St := ⟨play q 0 s.wr s.kept, play q 0 s.wr s.kept, [], -1, false⟩

theorem play_snoc (q : Nat → Bool) (a : Nat) (p : List UInt8) : ∀ (l : List (Nat × List UInt8)) (i : Nat) (f : Nat → List UInt8), play q i (l ++ [(a, p)]) f = if q (i + l.length) then upd (play q i l f) a p else play q i l f
  | [], i, f => rfl
  | (b, r) :: l, i, f => by
    show play q (i + 1) (l ++ [(a, p)]) _ = _
    rw [play_snoc q a p l (i + 1)]
    show (if q (i + 1 + l.length) then _ else _) = (if q (i + (l.length + 1)) then _ else _)
    rw [show i + 1 + l.length = i + (l.length + 1) by omega]
    rfl

end Go.Proofs.YtcfemppdeidjmacGreat.Dk

namespace Go.Proofs.YtcfemppdeidjmacGreat.Dk
open Go.ChangeShapes Go.WideShapes Go.ChangeAt Go.RowKit
open Go.RowKit (Below)
set_option linter.unusedVariables false

variable {w w' : World}

theorem cell_keep {W w' : World} {p : Addr} {v : Value} (hb : Below W.heap.size W w') (h : W.cell? p = some v) : w'.cell? p = some v :=
  (hb.cell (World.block_lt_of_cell? _ _ h)).trans h
theorem below_step {w a b : World} (h1 : Below w.heap.size w a) (h2 : Below a.heap.size a b) : Below w.heap.size w b := h1.trans (h2.mono h1.size)
def by1 (c : UInt8) : Value := .int .u8 (c.toNat : Int)

def NumAt (w : World) (a : Option Addr) (m : Nat) (f : Nat → Int) : Prop := ∀ i, i < m → ∃ b o, a = some ⟨b, o, none⟩ ∧ w.cell? ⟨b, o + i, none⟩ = some (.int .i64 (f i))
def BtAt (w : World) (a : Option Addr) (l : List UInt8) : Prop := ∀ i, i < l.length → ∃ b o, a = some ⟨b, o, none⟩ ∧ w.cell? ⟨b, o + i, none⟩ = some (by1 (l.getD i 0))
def EvAt (w : World) (a : Option Addr) (m : Nat) (f : Nat → Int × Int × Int) : Prop :=
  ∀ i, i < m → ∃ b o, a = some ⟨b, o, none⟩ ∧ w.cell? ⟨b, o + i * 3, none⟩ = some (.int .i64 (f i).1) ∧ w.cell? ⟨b, o + i * 3 + 1, none⟩ = some (.int .i64 (f i).2.1) ∧ w.cell? ⟨b, o + i * 3 + 2, none⟩ = some (.int .i64 (f i).2.2)

theorem BtAt.below {a : Option Addr} {l : List UInt8} (h : BtAt w a l) (hb : Below w.heap.size w w') : BtAt w' a l := fun i hi => by
  obtain ⟨b, o, e, h1⟩ := h i hi
  exact ⟨b, o, e, cell_keep hb h1⟩
theorem Tryz.cellsI : Tryz.prog.cellsOf 3 = 1 := by kernel_rfl
theorem Tryz.cellsEvent : Tryz.prog.cellsOf 80 = 3 := by kernel_rfl
section
variable {H : Type} {enc : TypeId × Value → H} {W : World}

end

section
variable {H : Type} {enc : TypeId × Value → H} {W : World}

end

end Go.Proofs.YtcfemppdeidjmacGreat.Dk
