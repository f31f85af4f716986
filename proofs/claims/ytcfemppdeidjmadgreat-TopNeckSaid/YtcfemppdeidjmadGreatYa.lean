/-
  Events on edges, plain: what is answered, what there is then.
-/
import Derived.Test.YtcfemppdeidjmadGreatF16
namespace Go.Proofs.YtcfemppdeidjmadGreat.Ds
open Go.Proofs.YtcfemppdeidjmadGreat.Br
set_option linter.unusedVariables false

/-- Is it a node? -/
def IsN (n : Nat) (x : Int) : Prop := 0 ≤ x ∧ x < n
/-- The edge of two nodes. -/
def pr (x y : Int) : Nat × Nat := (min x.toNat y.toNat, max x.toNat y.toNat)
/-- Joined by edges. -/
def Jn (A : List (Nat × Nat)) (x y : Int) : Prop := Conn A x.toNat y.toNat

abbrev Ev := Int × Int × Int

/-- What one event comes to: the error's number, the edges then, the answers. -/
def One (n : Nat) (A : List (Nat × Nat)) (e : Ev) (err : Int) (A' : List (Nat × Nat)) (out : List Bool) : Prop :=
  (¬ ((1 ≤ e.1 ∧ e.1 ≤ 3) ∧ IsN n e.2.1 ∧ IsN n e.2.2) ∧ err = 1) ∨
  ((e.1 = 1 ∧ IsN n e.2.1 ∧ IsN n e.2.2) ∧ e.2.1 = e.2.2 ∧ err = 2) ∨
  ((e.1 = 1 ∧ IsN n e.2.1 ∧ IsN n e.2.2) ∧ e.2.1 ≠ e.2.2 ∧ pr e.2.1 e.2.2 ∈ A ∧ err = 6) ∨
  ((e.1 = 1 ∧ IsN n e.2.1 ∧ IsN n e.2.2) ∧ e.2.1 ≠ e.2.2 ∧ pr e.2.1 e.2.2 ∉ A ∧ 200 ≤ A.length ∧ err = 3) ∨
  ((e.1 = 1 ∧ IsN n e.2.1 ∧ IsN n e.2.2) ∧ e.2.1 ≠ e.2.2 ∧ pr e.2.1 e.2.2 ∉ A ∧ A.length < 200 ∧ err = 0 ∧ Up A' ∧ A'.Perm (pr e.2.1 e.2.2 :: A) ∧ out = []) ∨
  ((e.1 = 2 ∧ IsN n e.2.1 ∧ IsN n e.2.2) ∧ pr e.2.1 e.2.2 ∉ A ∧ err = 4) ∨
  ((e.1 = 2 ∧ IsN n e.2.1 ∧ IsN n e.2.2) ∧ pr e.2.1 e.2.2 ∈ A ∧ err = 0 ∧ Up A' ∧ A.Perm (pr e.2.1 e.2.2 :: A') ∧ out = []) ∨
  ((e.1 = 3 ∧ IsN n e.2.1 ∧ IsN n e.2.2) ∧ err = 0 ∧ A' = A ∧ ∃ q : Bool, (q = true ↔ Jn A e.2.1 e.2.2) ∧ out = [q])

/-- What events come to, one behind the other: the error of the first that has one; without an error the edges then, and the answers. -/
def All (n : Nat) : List Ev → List (Nat × Nat) → Int → List (Nat × Nat) → List Bool → Prop
  | [], A, err, A', out => err = 0 ∧ A' = A ∧ out = []
  | e :: r, A, err, A', out => (err ≠ 0 ∧ ∃ B o, One n A e err B o) ∨ (∃ B o1 o2, One n A e 0 B o1 ∧ All n r B err A' o2 ∧ out = o1 ++ o2)

/-- What Do comes to. -/
def Does (n : Nat) (A : List (Nat × Nat)) (l : List Ev) (err : Int) (A' : List (Nat × Nat)) (out : List Bool) : Prop :=
  (120 < l.length ∧ err = 3 ∧ A' = A ∧ out = []) ∨ (l.length ≤ 120 ∧ ((err ≠ 0 ∧ A' = A ∧ out = [] ∧ ∃ B o, All n l A err B o) ∨ (err = 0 ∧ All n l A 0 A' out)))

variable {n : Nat} {A A' B B' : List (Nat × Nat)} {e : Ev} {l r : List Ev} {err err' : Int} {out out' o o' : List Bool}

theorem One.rises (h : One n A e 0 A' o) (hr : Up A) : Up A' := by
  rcases h with ⟨_, h⟩ | ⟨_, _, h⟩ | ⟨_, _, _, h⟩ | ⟨_, _, _, _, h⟩ | ⟨_, _, _, _, _, h, _⟩ | ⟨_, _, h⟩ | ⟨_, _, _, h, _⟩ | ⟨_, _, rfl, _⟩
  · omega
  · omega
  · omega
  · omega
  · exact h
  · omega
  · exact h
  · exact hr

theorem up_one {A B : List (Nat × Nat)} (h1 : Up A) (h2 : Up B) (hp : A.Perm B) : A = B := by
  refine List.Perm.eq_of_pairwise (le := fun x y : Nat × Nat => x.1 < y.1 ∨ x.1 = y.1 ∧ x.2 < y.2) (fun a b _ _ q1 q2 => ?_) h1 h2 hp
  omega

/-- One event comes to one thing. -/
theorem One.one (h : One n A e err A' o) (h' : One n A e err' B' o') (hr : Up A) : err = err' ∧ (err = 0 → A' = B' ∧ o = o') := by
  have hb : ∀ {q q' : Bool} {P : Prop}, (q = true ↔ P) → (q' = true ↔ P) → q = q' := fun h1 h2 => Bool.eq_iff_iff.2 (h1.trans h2.symm)
  rcases h with ⟨a1, rfl⟩ | ⟨⟨a1, a2⟩, a3, rfl⟩ | ⟨⟨a1, a2⟩, a3, a4, rfl⟩ | ⟨⟨a1, a2⟩, a3, a4, a5, rfl⟩ | ⟨⟨a1, a2⟩, a3, a4, a5, rfl, a6, a7, rfl⟩ | ⟨⟨a1, a2⟩, a3, rfl⟩ | ⟨⟨a1, a2⟩, a3, rfl, a6, a7, rfl⟩ | ⟨⟨a1, a2⟩, rfl, rfl, q, a4, rfl⟩ <;>
  rcases h' with ⟨b1, rfl⟩ | ⟨⟨b1, b2⟩, b3, rfl⟩ | ⟨⟨b1, b2⟩, b3, b4, rfl⟩ | ⟨⟨b1, b2⟩, b3, b4, b5, rfl⟩ | ⟨⟨b1, b2⟩, b3, b4, b5, rfl, b6, b7, rfl⟩ | ⟨⟨b1, b2⟩, b3, rfl⟩ | ⟨⟨b1, b2⟩, b3, rfl, b6, b7, rfl⟩ | ⟨⟨b1, b2⟩, rfl, rfl, q', b4, rfl⟩ <;>
  first
    | exact ⟨rfl, fun q => by omega⟩
    | (exfalso; first | (exact a1 ⟨by omega, b2⟩) | (exact b1 ⟨by omega, a2⟩) | (exact a3 b3) | (exact b3 a3) | (exact a4 b4) | (exact b4 a4) | omega | (exact a3 b3) | (exact b3 a3))
    | exact ⟨rfl, fun _ => ⟨up_one a6 b6 (a7.trans b7.symm), rfl⟩⟩
    | exact ⟨rfl, fun _ => ⟨up_one a6 b6 ((a7.symm.trans b7).cons_inv), rfl⟩⟩
    | exact ⟨rfl, fun _ => ⟨rfl, by rw [hb a4 b4]⟩⟩

/-- Events come to one thing. -/
theorem All.one : ∀ {l : List Ev} {A A' B' : List (Nat × Nat)} {err err' : Int} {o o' : List Bool}, All n l A err A' o → All n l A err' B' o' → Up A → err = err' ∧ (err = 0 → A' = B' ∧ o = o')
  | [], _, _, _, _, _, _, _, ⟨h1, h2, h3⟩, ⟨g1, g2, g3⟩, _ => ⟨h1.trans g1.symm, fun _ => ⟨h2.trans g2.symm, h3.trans g3.symm⟩⟩
  | e :: r, A, A', B', err, err', o, o', h, h', hr => by
    rcases h with ⟨h1, B, p, h2⟩ | ⟨B, o1, o2, h1, h2, h3⟩ <;> rcases h' with ⟨g1, C, q, g2⟩ | ⟨C, p1, p2, g1, g2, g3⟩
    · exact ⟨(h2.one g2 hr).1, fun q => absurd q h1⟩
    · exact absurd (h2.one g1 hr).1 h1
    · exact absurd (g2.one h1 hr).1 g1
    · obtain ⟨rfl, rfl⟩ := (h1.one g1 hr).2 rfl
      obtain ⟨e1, e2⟩ := All.one h2 g2 (h1.rises hr)
      exact ⟨e1, fun q => ⟨(e2 q).1, by rw [h3, g3, (e2 q).2]⟩⟩

theorem Does.one (h : Does n A l err A' o) (h' : Does n A l err' B' o') (hr : Up A) : err = err' ∧ A' = B' ∧ o = o' := by
  rcases h with ⟨h1, h2, h3, h4⟩ | ⟨h1, ⟨h2, h3, h4, B, p, h5⟩ | ⟨h2, h3⟩⟩ <;> rcases h' with ⟨g1, g2, g3, g4⟩ | ⟨g1, ⟨g2, g3, g4, C, q, g5⟩ | ⟨g2, g3⟩⟩
  · exact ⟨h2.trans g2.symm, h3.trans g3.symm, h4.trans g4.symm⟩
  · omega
  · omega
  · omega
  · exact ⟨(h5.one g5 hr).1, h3.trans g3.symm, h4.trans g4.symm⟩
  · exact absurd (h5.one g3 hr).1 h2
  · omega
  · exact absurd (g5.one h3 hr).1 g2
  · obtain ⟨_, e⟩ := h3.one g3 hr
    exact ⟨h2.trans g2.symm, e rfl⟩

theorem All.rises : ∀ {l : List Ev} {A A' : List (Nat × Nat)} {o : List Bool}, All n l A 0 A' o → Up A → Up A'
  | [], _, _, _, ⟨_, h2, _⟩, hr => h2 ▸ hr
  | e :: r, A, A', o, h, hr => by
    rcases h with ⟨h1, _⟩ | ⟨B, o1, o2, h1, h2, h3⟩
    · exact absurd rfl h1
    · exact h2.rises (h1.rises hr)

theorem Does.rises (h : Does n A l err A' o) (hr : Up A) : Up A' := by
  rcases h with ⟨h1, h2, h3, h4⟩ | ⟨h1, ⟨h2, h3, h4, B, p, h5⟩ | ⟨h2, h3⟩⟩
  · rw [h3]; exact hr
  · rw [h3]; exact hr
  · exact h3.rises hr

/-- One event behind others. -/
theorem All.snoc : ∀ {l : List Ev} {A B A' : List (Nat × Nat)} {o o' : List Bool} {e : Ev}, All n l A 0 B o → One n B e 0 A' o' → All n (l ++ [e]) A 0 A' (o ++ o')
  | [], A, B, A', o, o', e, ⟨_, h2, h3⟩, h => Or.inr ⟨A', o', [], h2 ▸ h, ⟨rfl, rfl, rfl⟩, by rw [h3]; simp⟩
  | x :: r, A, B, A', o, o', e, h, h' => by
    rcases h with ⟨h1, _⟩ | ⟨C, o1, o2, h1, h2, h3⟩
    · exact absurd rfl h1
    · exact Or.inr ⟨C, o1, o2 ++ o', h1, h2.snoc h', by rw [h3, List.append_assoc]⟩
theorem All.stop : ∀ {l r : List Ev} {A B C : List (Nat × Nat)} {o o' : List Bool} {e : Ev} {err : Int}, All n l A 0 B o → err ≠ 0 → One n B e err C o' → ∃ o'', All n (l ++ e :: r) A err C o''
  | [], r, A, B, C, o, o', e, err, ⟨_, h2, h3⟩, hne, h => ⟨[], Or.inl ⟨hne, C, o', h2 ▸ h⟩⟩
  | x :: l, r, A, B, C, o, o', e, err, h, hne, h' => by
    rcases h with ⟨h1, _⟩ | ⟨D, o1, o2, h1, h2, h3⟩
    · exact absurd rfl h1
    · obtain ⟨o'', h4⟩ := h2.stop (r := r) hne h'
      exact ⟨_, Or.inr ⟨D, o1, o'', h1, h4, rfl⟩⟩

end Go.Proofs.YtcfemppdeidjmadGreat.Ds
