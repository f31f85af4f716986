/-
  Ba Bb Bn Bo Bc
-/
import Derived.Test.YtcfemppdeidjmacGreatW4
import Derived.WalkKit
import Derived.WalkSpells
import Derived.WalkLawsBesides
import Derived.Deep.RegionHeld3
import Derived.Deep.OwnRows
import Derived.OneCell
import Derived.BigQuiet
import Derived.BigRegion
import Derived.Below
import Derived.Maps.AppendAt
import Derived.Deep.AppendLies
import Derived.Test.YtcfemppdeidjmacGreatChecked
namespace Go.Proofs.YtcfemppdeidjmacGreat.Br
set_option linter.unusedVariables false

variable {E E' A B : List (Nat × Nat)} {p q : Nat → Nat} {n a : Nat} {e : Nat × Nat}

theorem cnt_filter (n : Nat) (t : Nat → Bool) : cnt n t = ((List.range n).filter t).length := by unfold cnt; rw [List.countP_eq_length_filter]

end Go.Proofs.YtcfemppdeidjmacGreat.Br

namespace Go.Proofs.YtcfemppdeidjmacGreat.Br
set_option linter.unusedVariables false

variable {f : Nat → Int × Int} {m n k k' i j : Nat} {x x' : Int} {E E' A B : List (Nat × Nat)} {e : Nat × Nat}

def Sane (n : Nat) (f : Nat → Int × Int) (k : Nat) : Prop := 0 ≤ (f k).1 ∧ (f k).1 < (f k).2 ∧ (f k).2 < n
def Climbs (f : Nat → Int × Int) (k : Nat) : Prop := 0 < k → (f (k - 1)).1 < (f k).1 ∨ (f (k - 1)).1 = (f k).1 ∧ (f (k - 1)).2 < (f k).2
def May (n : Nat) (f : Nat → Int × Int) (k : Nat) : Prop := Sane n f k ∧ Climbs f k
def Bad (n : Nat) (f : Nat → Int × Int) (k : Nat) (x : Int) : Prop := (¬ Sane n f k ∧ x = 1) ∨ (Sane n f k ∧ ¬ Climbs f k ∧ x = 2)

theorem Bad.not (h : Bad n f k x) : ¬ May n f k := by
  rintro ⟨h1, h2⟩
  rcases h with ⟨h, _⟩ | ⟨_, h, _⟩
  · exact h h1
  · exact h h2
theorem Bad.one (h : Bad n f k x) (h' : Bad n f k x') : x = x' := by
  rcases h with ⟨a1, a2⟩ | ⟨a1, _, a2⟩ <;> rcases h' with ⟨b1, b2⟩ | ⟨b1, _, b2⟩
  · omega
  · exact absurd b1 a1
  · exact absurd a1 b1
  · omega
theorem Bad.pos (h : Bad n f k x) : x ≠ 0 := by rcases h with ⟨_, h⟩ | ⟨_, _, h⟩ <;> omega
theorem bad_or (n : Nat) (f : Nat → Int × Int) (k : Nat) : May n f k ∨ ∃ x, Bad n f k x := by
  by_cases h1 : Sane n f k
  · by_cases h2 : Climbs f k
    · exact Or.inl ⟨h1, h2⟩
    · exact Or.inr ⟨2, Or.inr ⟨h1, h2, rfl⟩⟩
  · exact Or.inr ⟨1, Or.inl ⟨h1, rfl⟩⟩

def EFault (n : Int) (m : Nat) (f : Nat → Int × Int) (k : Nat) (x : Int) : Prop :=
  ((n < 1 ∨ 60 < n) ∧ k = 0 ∧ x = 1) ∨ ((1 ≤ n ∧ n ≤ 60) ∧ 200 < m ∧ k = 0 ∧ x = 3) ∨
  ((1 ≤ n ∧ n ≤ 60) ∧ m ≤ 200 ∧ k < m ∧ (∀ j, j < k → May n.toNat f j) ∧ Bad n.toNat f k x) ∨ ((1 ≤ n ∧ n ≤ 60) ∧ m ≤ 200 ∧ (∀ j, j < m → May n.toNat f j) ∧ k = 0 ∧ x = 0)

theorem EFault.one {n : Int} (h : EFault n m f k x) (h' : EFault n m f k' x') : k = k' ∧ x = x' := by
  rcases h with ⟨a1, a2, a3⟩ | ⟨a1, a2, a3, a4⟩ | ⟨a1, a2, a3, a4, a5⟩ | ⟨a1, a2, a3, a4, a5⟩ <;> rcases h' with ⟨b1, b2, b3⟩ | ⟨b1, b2, b3, b4⟩ | ⟨b1, b2, b3, b4, b5⟩ | ⟨b1, b2, b3, b4, b5⟩
  case inr.inr.inl.inr.inr.inl =>
    rcases Nat.lt_trichotomy k k' with q | q | q
    · exact absurd (b4 k q) a5.not
    · subst q
      exact ⟨rfl, a5.one b5⟩
    · exact absurd (a4 k' q) b5.not
  case inr.inr.inl.inr.inr.inr => exact absurd (b3 k a3) a5.not
  case inr.inr.inr.inr.inr.inl => exact absurd (a3 k' b3) b5.not
  all_goals omega

def Valid (n : Int) (m : Nat) (f : Nat → Int × Int) : Prop := (1 ≤ n ∧ n ≤ 60) ∧ m ≤ 200 ∧ ∀ j, j < m → May n.toNat f j

theorem fault_or (n : Int) (m : Nat) (f : Nat → Int × Int) : Valid n m f ∨ ∃ k x, EFault n m f k x ∧ x ≠ 0 := by
  by_cases h1 : n < 1 ∨ 60 < n
  · exact Or.inr ⟨0, 1, Or.inl ⟨h1, rfl, rfl⟩, by decide⟩
  by_cases h2 : 200 < m
  · exact Or.inr ⟨0, 3, Or.inr (Or.inl ⟨by omega, h2, rfl, rfl⟩), by decide⟩
  have key : ∀ t, t ≤ m → (∃ k x, k < t ∧ (∀ j, j < k → May n.toNat f j) ∧ Bad n.toNat f k x) ∨ ∀ j, j < t → May n.toNat f j := by
    intro t
    induction t with
    | zero => exact fun _ => Or.inr fun j hj => absurd hj (Nat.not_lt_zero _)
    | succ t ih =>
      intro ht
      rcases ih (by omega) with ⟨k, x, q1, q2, q3⟩ | hall
      · exact Or.inl ⟨k, x, by omega, q2, q3⟩
      · rcases bad_or n.toNat f t with hm | ⟨x, hb⟩
        · refine Or.inr fun j hj => ?_
          rcases Nat.lt_or_ge j t with q | q
          · exact hall j q
          · obtain rfl : j = t := by omega
            exact hm
        · exact Or.inl ⟨t, x, by omega, hall, hb⟩
  rcases key m (Nat.le_refl _) with ⟨k, x, q1, q2, q3⟩ | hall
  · exact Or.inr ⟨k, x, Or.inr (Or.inr (Or.inl ⟨by omega, by omega, q1, q2, q3⟩)), q3.pos⟩
  · exact Or.inl ⟨by omega, by omega, hall⟩

theorem Valid.fault {n : Int} (h : Valid n m f) : EFault n m f 0 0 := Or.inr (Or.inr (Or.inr ⟨h.1, h.2.1, h.2.2, rfl, rfl⟩))

def edges (f : Nat → Int × Int) (m : Nat) : List (Nat × Nat) := (List.range m).map fun i => ((f i).1.toNat, (f i).2.toNat)

theorem edges_len (f : Nat → Int × Int) (m : Nat) : (edges f m).length = m := by simp [edges]
theorem edges_get (h : i < m) : (edges f m)[i]? = some ((f i).1.toNat, (f i).2.toNat) := by simp [edges, h]
theorem edges_getD (h : i < m) : (edges f m).getD i (0, 0) = ((f i).1.toNat, (f i).2.toNat) := by rw [List.getD_eq_getElem?_getD, edges_get h]; rfl

def Up (E : List (Nat × Nat)) : Prop := E.Pairwise fun x y => x.1 < y.1 ∨ x.1 = y.1 ∧ x.2 < y.2

theorem climb (h : ∀ j, j < m → May n f j) : ∀ {j i : Nat}, i < j → j < m → (f i).1 < (f j).1 ∨ (f i).1 = (f j).1 ∧ (f i).2 < (f j).2 := by
  intro j
  induction j with
  | zero => intro i hi; exact absurd hi (Nat.not_lt_zero _)
  | succ j ih =>
    intro i hi hj
    have h1 := (h (j + 1) hj).2 (by omega)
    rw [Nat.add_sub_cancel] at h1
    rcases Nat.lt_or_ge i j with q | q
    · have h2 := ih q (by omega)
      omega
    · obtain rfl : i = j := by omega
      exact h1

theorem edges_up (h : ∀ j, j < m → May n f j) : Up (edges f m) := by
  unfold Up edges
  rw [List.pairwise_map]
  refine List.Pairwise.imp_of_mem ?_ (List.pairwise_lt_range (n := m))
  intro i j hi hj hij
  rw [List.mem_range] at hi hj
  have h1 := climb h hij hj
  have h2 := (h i hi).1
  have h3 := (h j hj).1
  unfold Sane at h2 h3
  show (f i).1.toNat < (f j).1.toNat ∨ _ = _ ∧ (f i).2.toNat < (f j).2.toNat
  omega

end Go.Proofs.YtcfemppdeidjmacGreat.Br

namespace Go.Proofs.YtcfemppdeidjmacGreat.Br
set_option linter.unusedVariables false

variable {E F : List (Nat × Nat)} {a b c u v x y z k n : Nat} {P P' : Nat → Prop}

def Adj (E : List (Nat × Nat)) (a b : Nat) : Prop := (a, b) ∈ E ∨ (b, a) ∈ E
theorem Adj.symm (h : Adj E a b) : Adj E b a := Or.symm h
theorem Adj.conn (h : Adj E a b) : Conn E a b := h.elim conn_edge fun h => (conn_eqv E).symm (conn_edge h)

def CIn (E : List (Nat × Nat)) (P : Nat → Prop) (x y : Nat) : Prop := ∀ Q : Nat → Nat → Prop, Eqv Q → (∀ u v, Adj E u v → P u → P v → Q u v) → Q x y

theorem CIn.refl (E : List (Nat × Nat)) (P : Nat → Prop) (x : Nat) : CIn E P x x := fun Q h _ => h.refl x
theorem CIn.trans (h : CIn E P x y) (h' : CIn E P y z) : CIn E P x z := fun Q q e => q.trans (h Q q e) (h' Q q e)
theorem CIn.edge (h : Adj E x y) (hx : P x) (hy : P y) : CIn E P x y := fun Q q e => e x y h hx hy
theorem CIn.mono (h : CIn E P x y) (hp : ∀ z, P z → P' z) : CIn E P' x y := fun Q q e => h Q q fun u v h1 h2 h3 => e u v h1 (hp u h2) (hp v h3)
theorem CIn.conn (h : CIn E P x y) (hp : ∀ u v, Adj E u v → P u → P v → Conn F u v) : Conn F x y := h _ (conn_eqv F) hp

theorem closed (h : Conn F x y) (hp : ∀ u v, (u, v) ∈ F → (P u ↔ P v)) : P x ↔ P y :=
  h (fun u v => P u ↔ P v) ⟨⟨fun _ => Iff.rfl, fun h => h.symm, fun h k => h.trans k⟩, fun e he => hp e.1 e.2 he⟩

structure St where
  turn : Nat → Nat
  fr : Nat → Int
  least : Nat → Nat
  back : Nat → Nat
  pieces : Nat → Nat
  K : Nat → List Nat
  N : Nat → Nat → Prop
  T : Nat

variable {s s' s0 : St}

structure Vis (E : List (Nat × Nat)) (s : St) (x : Nat) : Prop where
  le : s.turn x ≤ s.T
  way : (s.K x = [] ∧ s.fr x = -1) ∨ ∃ k : Nat, s.fr x = (k : Nat) ∧ Adj E x k ∧ s.K x = k :: s.K k ∧ 0 < s.turn k ∧ s.turn k < s.turn x

structure Fin (E : List (Nat × Nat)) (s : St) (a : Nat) : Prop where
  self : s.N a a
  vis : ∀ x, s.N a x → 0 < s.turn x
  later : ∀ x, s.N a x → x ≠ a → s.turn a < s.turn x
  conn : ∀ x, s.N a x → CIn E (s.N a) x a
  out : ∀ x y, s.N a x → Adj E x y → ¬ s.N a y → y ∈ s.K a
  back_le : s.back a ≤ s.turn a
  back_lo : ∀ x y, s.N a x → Adj E x y → ¬ s.N a y → (x ≠ a ∨ s.fr a ≠ (y : Nat)) → s.back a ≤ s.turn y
  back_is : s.back a = s.turn a ∨ ∃ x y, s.N a x ∧ Adj E x y ∧ ¬ s.N a y ∧ (x ≠ a ∨ s.fr a ≠ (y : Nat)) ∧ s.back a = s.turn y
  child : ∀ x, s.N a x → x ≠ a → ∃ c, s.fr c = (a : Nat) ∧ s.N a c ∧ s.N c x
  up : ∀ x, s.N a x → x ≠ a → ∃ k : Nat, s.fr x = (k : Nat) ∧ s.N a k
  count : ∃ H : List Nat, H.Nodup ∧ s.pieces a = (if s.fr a = -1 then 0 else 1) + H.length ∧ ∀ c, c ∈ H ↔ s.N a c ∧ s.fr c = (a : Nat) ∧ s.turn a ≤ s.back c
  near : ∀ y, Adj E a y → 0 < s.turn y

theorem way_in (hv : ∀ x, 0 < s.turn x → Vis E s x) : ∀ (l : List Nat) (x : Nat), 0 < s.turn x → s.K x = l → ∀ y ∈ l, 0 < s.turn y ∧ s.turn y < s.turn x ∧ ∃ k : Nat, s.fr x = (k : Nat) ∧ CIn E (· ∈ l) y k := by
  intro l
  induction l with
  | nil => intro x _ _ y hy; cases hy
  | cons k0 l0 ih =>
    intro x hx hK y hy
    rcases (hv x hx).way with ⟨h1, _⟩ | ⟨k, h1, h2, h3, h4, h5⟩
    · rw [hK] at h1; cases h1
    rw [hK] at h3
    injection h3 with e1 e2
    subst e1
    rcases List.mem_cons.1 hy with rfl | hy
    · exact ⟨h4, h5, y, h1, CIn.refl _ _ _⟩
    · obtain ⟨q1, q2, k', q3, q4⟩ := ih k0 h4 e2.symm y hy
      refine ⟨q1, by omega, k0, h1, ?_⟩
      rcases (hv k0 h4).way with ⟨g1, _⟩ | ⟨k2, g1, g2, g3, _, _⟩
      · rw [← e2] at g1; subst g1; cases hy
      obtain rfl : k2 = k' := by rw [q3] at g1; omega
      refine (q4.mono fun z hz => List.mem_cons_of_mem _ hz).trans (CIn.edge g2.symm ?_ List.mem_cons_self)
      rw [e2, g3]
      exact List.mem_cons_of_mem _ List.mem_cons_self

structure Deep (E : List (Nat × Nat)) (s : St) : Prop where
  vis : ∀ x, 0 < s.turn x → Vis E s x
  fin : ∀ x, 0 < s.turn x → Fin E s x

section

end

end Go.Proofs.YtcfemppdeidjmacGreat.Br

namespace Go.Proofs.YtcfemppdeidjmacGreat.Br
set_option linter.unusedVariables false

variable {E : List (Nat × Nat)} {a b c x y k n L : Nat} {s s' s'' s0 : St} {A l : List Nat}

def upd {α : Type} (f : Nat → α) (a : Nat) (v : α) : Nat → α := fun x => if x = a then v else f x
theorem upd_self {α : Type} (f : Nat → α) (a : Nat) (v : α) : upd f a v a = v := if_pos rfl
theorem upd_ne {α : Type} (f : Nat → α) {a x : Nat} (v : α) (h : x ≠ a) : upd f a v x = f x := if_neg h

def frOf : List Nat → Int
  | [] => -1
  | k :: _ => (k : Nat)

structure Inv (E : List (Nat × Nat)) (n : Nat) (s : St) (A : List Nat) : Prop where
  vis : ∀ x, 0 < s.turn x → Vis E s x
  lt : ∀ x, 0 < s.turn x → x < n
  act : ∀ x ∈ A, 0 < s.turn x
  top : A = [] ∨ ∃ k, A = k :: s.K k ∧ 0 < s.turn k
  fin : ∀ x, 0 < s.turn x → x ∉ A → Fin E s x
  off : ∀ a x, 0 < s.turn a → a ∉ A → s.N a x → x ∉ A
  zero : ∀ x, s.turn x = 0 → s.pieces x = 0
  sum : s.T + cnt n (fun x => decide (s.turn x = 0)) = n

structure Same (s s' : St) (x : Nat) : Prop where
  turn : s'.turn x = s.turn x
  fr : s'.fr x = s.fr x
  least : s'.least x = s.least x
  back : s'.back x = s.back x
  pieces : s'.pieces x = s.pieces x
  K : s'.K x = s.K x
  N : s'.N x = s.N x

theorem Same.trans (h : Same s s' x) (h' : Same s' s'' x) : Same s s'' x := ⟨h'.turn.trans h.turn, h'.fr.trans h.fr, h'.least.trans h.least, h'.back.trans h.back, h'.pieces.trans h.pieces, h'.K.trans h.K, h'.N.trans h.N⟩

def Keeps (s s' : St) : Prop := ∀ x, 0 < s.turn x → Same s s' x

theorem Keeps.pos (h : Keeps s s') (hx : 0 < s.turn x) : 0 < s'.turn x := by rw [(h x hx).turn]; exact hx

theorem Fin.keep (h : Fin E s x) (hv : ∀ y ∈ s.K x, 0 < s.turn y) (h1 : ∀ y, 0 < s.turn y → s'.turn y = s.turn y ∧ s'.fr y = s.fr y ∧ s'.K y = s.K y) (h2 : ∀ y, s.N x y → s'.N y = s.N y ∧ s'.back y = s.back y ∧ s'.pieces y = s.pieces y) : Fin E s' x := by
  have hx := h.vis x h.self
  obtain ⟨t1, t2, t3⟩ := h1 x hx
  obtain ⟨n1, n2, n3⟩ := h2 x h.self
  have tv : ∀ u v, s.N x u → Adj E u v → ¬ s.N x v → s'.turn v = s.turn v := fun u v q1 q2 q3 => (h1 v (hv v (h.out u v q1 q2 q3))).1
  constructor
  · rw [n1]; exact h.self
  · intro y hy; rw [n1] at hy; rw [(h1 y (h.vis y hy)).1]; exact h.vis y hy
  · intro y hy hne; rw [n1] at hy; rw [(h1 y (h.vis y hy)).1, t1]; exact h.later y hy hne
  · intro y hy; rw [n1] at hy ⊢; exact h.conn y hy
  · intro u v q1 q2 q3; rw [n1] at q1 q3; rw [t3]; exact h.out u v q1 q2 q3
  · rw [n2, t1]; exact h.back_le
  · intro u v q1 q2 q3 q4
    rw [n1] at q1 q3
    rw [t2] at q4
    rw [n2, tv u v q1 q2 q3]
    exact h.back_lo u v q1 q2 q3 q4
  · rcases h.back_is with q | ⟨u, v, q1, q2, q3, q4, q5⟩
    · exact Or.inl (by rw [n2, t1, q])
    · exact Or.inr ⟨u, v, by rw [n1]; exact q1, q2, by rw [n1]; exact q3, by rw [t2]; exact q4, by rw [n2, q5, tv u v q1 q2 q3]⟩
  · intro y hy hne
    rw [n1] at hy
    obtain ⟨c, q1, q2, q3⟩ := h.child y hy hne
    exact ⟨c, by rw [(h1 c (h.vis c q2)).2.1]; exact q1, by rw [n1]; exact q2, by rw [(h2 c q2).1]; exact q3⟩
  · intro y hy hne
    rw [n1] at hy
    obtain ⟨k, q1, q2⟩ := h.up y hy hne
    exact ⟨k, by rw [(h1 y (h.vis y hy)).2.1]; exact q1, by rw [n1]; exact q2⟩
  · obtain ⟨H, q1, q2, q3⟩ := h.count
    refine ⟨H, q1, by rw [n3, t2]; exact q2, fun c => ?_⟩
    rw [q3 c, n1, t1]
    constructor
    · rintro ⟨r1, r2, r3⟩
      exact ⟨r1, by rw [(h1 c (h.vis c r1)).2.1]; exact r2, by rw [(h2 c r1).2.1]; exact r3⟩
    · rintro ⟨r1, r2, r3⟩
      rw [(h1 c (h.vis c r1)).2.1] at r2
      rw [(h2 c r1).2.1] at r3
      exact ⟨r1, r2, r3⟩
  · intro y hy; rw [(h1 y (h.near y hy)).1]; exact h.near y hy

def arrived (s : St) (a : Nat) (A : List Nat) (L : Nat) : St :=
  { turn := upd s.turn a (s.T + 1), fr := upd s.fr a (frOf A), least := upd s.least a L, back := upd s.back a (s.T + 1), pieces := upd s.pieces a (if frOf A = -1 then 0 else 1), K := upd s.K a A, N := upd s.N a (fun x => x = a), T := s.T + 1 }

structure Mid (E : List (Nat × Nat)) (n : Nat) (s0 s : St) (a : Nat) (A l : List Nat) (L : Nat) : Prop where
  pre : Inv E n s0 A
  inv : Inv E n s (a :: A)
  keep : Keeps s0 s
  unseen : s0.turn a = 0
  T : s0.T < s.T
  ta : s.turn a = s0.T + 1
  fra : s.fr a = frOf A
  way : s.K a = A
  new : ∀ x, s0.turn x = 0 → 0 < s.turn x → s0.T < s.turn x ∧ s.least x = L ∧ (x ≠ a → s.turn a < s.turn x)
  conn : ∀ x, s0.turn x = 0 → 0 < s.turn x → CIn E (fun x => s0.turn x = 0 ∧ 0 < s.turn x) x a
  done : ∀ y ∈ l, 0 < s.turn y
  back_le : s.back a ≤ s.turn a
  back_lo : ∀ x y, s0.turn x = 0 → 0 < s.turn x → Adj E x y → 0 < s0.turn y → (x ≠ a ∨ y ∈ l) → (x ≠ a ∨ s.fr a ≠ (y : Nat)) → s.back a ≤ s.turn y
  back_is : s.back a = s.turn a ∨ ∃ x y, (s0.turn x = 0 ∧ 0 < s.turn x) ∧ Adj E x y ∧ 0 < s0.turn y ∧ (x ≠ a ∨ s.fr a ≠ (y : Nat)) ∧ s.back a = s.turn y
  child : ∀ x, s0.turn x = 0 → 0 < s.turn x → x ≠ a → ∃ c, s.fr c = (a : Nat) ∧ (s0.turn c = 0 ∧ 0 < s.turn c) ∧ s.N c x ∧ c ≠ a
  up : ∀ x, s0.turn x = 0 → 0 < s.turn x → x ≠ a → ∃ k : Nat, s.fr x = (k : Nat) ∧ s0.turn k = 0 ∧ 0 < s.turn k
  count : ∃ H : List Nat, H.Nodup ∧ s.pieces a = (if s.fr a = -1 then 0 else 1) + H.length ∧ ∀ c, c ∈ H ↔ (s0.turn c = 0 ∧ 0 < s.turn c) ∧ s.fr c = (a : Nat) ∧ s.turn a ≤ s.back c
  few : s.pieces a ≤ 1 + l.length

structure Walked (E : List (Nat × Nat)) (n : Nat) (s s' : St) (a : Nat) (A : List Nat) (L : Nat) : Prop where
  inv : Inv E n s' A
  keep : Keeps s s'
  unseen : s.turn a = 0
  seen : 0 < s'.turn a
  T : s.T < s'.T
  way : s'.K a = A
  fra : s'.fr a = frOf A
  set : ∀ x, s'.N a x ↔ s.turn x = 0 ∧ 0 < s'.turn x
  new : ∀ x, s.turn x = 0 → 0 < s'.turn x → s.T < s'.turn x ∧ s'.least x = L

theorem Inv.way (h : Inv E n s A) (hx : 0 < s.turn x) : ∀ y ∈ s.K x, 0 < s.turn y := fun y hy => (way_in h.vis _ x hx rfl y hy).1

theorem free_one {t : Nat → Nat} (ha : a < n) (h0 : t a = 0) {v : Nat} (hv : 0 < v) : cnt n (fun x => decide (t x = 0)) = cnt n (fun x => decide (upd t a v x = 0)) + 1 := by
  have := cnt_or (p := fun x => decide (upd t a v x = 0)) (q := fun i => decide (i = a)) (r := fun x => decide (t x = 0)) n (fun i _ => by
    by_cases h : i = a
    · subst h; simp [h0]
    · simp [h, upd_ne]) (fun i _ => by
    by_cases h : i = a
    · subst h; simp [upd_self]; omega
    · simp [h])
  rw [cnt_one, if_pos ha] at this
  exact this

theorem frOf_ne (h : Inv E n s A) (h0 : s.turn a = 0) : frOf A ≠ (a : Nat) := fun e => by
  cases A with
  | nil =>
    have e : (-1 : Int) = (a : Nat) := e
    omega
  | cons k l =>
    have := h.act k List.mem_cons_self
    have e : ((k : Nat) : Int) = (a : Nat) := e
    have : k = a := by omega
    subst this
    omega

theorem mid_start (h : Inv E n s A) (ha : a < n) (h0 : s.turn a = 0) (hA : ∀ k, A.head? = some k → Adj E a k) : Mid E n s (arrived s a A L) a A [] L := by
  have ne : ∀ {y}, 0 < s.turn y → y ≠ a := fun hy e => by subst e; omega
  have t1 : ∀ y, 0 < s.turn y → (arrived s a A L).turn y = s.turn y ∧ (arrived s a A L).fr y = s.fr y ∧ (arrived s a A L).K y = s.K y := fun y hy => ⟨upd_ne _ _ (ne hy), upd_ne _ _ (ne hy), upd_ne _ _ (ne hy)⟩
  have t2 : ∀ y, 0 < s.turn y → (arrived s a A L).N y = s.N y ∧ (arrived s a A L).back y = s.back y ∧ (arrived s a A L).pieces y = s.pieces y := fun y hy => ⟨upd_ne _ _ (ne hy), upd_ne _ _ (ne hy), upd_ne _ _ (ne hy)⟩
  have ta : (arrived s a A L).turn a = s.T + 1 := upd_self ..
  have old : ∀ y, y ≠ a → 0 < (arrived s a A L).turn y → 0 < s.turn y := fun y hy h => by rw [show (arrived s a A L).turn y = s.turn y from upd_ne _ _ hy] at h; exact h
  have one : ∀ y, s.turn y = 0 → 0 < (arrived s a A L).turn y → y = a := fun y hy h => Classical.byContradiction fun q => by have := old y q h; omega
  have fra : (arrived s a A L).fr a = frOf A := upd_self ..
  refine ⟨h, ⟨?_, ?_, ?_, ?_, ?_, ?_, ?_, ?_⟩, fun x hx => ⟨(t1 x hx).1, (t1 x hx).2.1, upd_ne _ _ (ne hx), (t2 x hx).2.1, (t2 x hx).2.2, (t1 x hx).2.2, (t2 x hx).1⟩, h0, Nat.lt_succ_self _, ta, fra, upd_self .., ?_, ?_, ?_, ?_, ?_, ?_, ?_, ?_, ?_, ?_⟩
  · intro x hx
    by_cases e : x = a
    · subst e
      refine ⟨by rw [ta]; exact Nat.le_refl _, ?_⟩
      rw [fra, show (arrived s x A L).K x = A from upd_self ..]
      rcases h.top with e | ⟨k, e, hk⟩
      · subst e; exact Or.inl ⟨rfl, rfl⟩
      · refine Or.inr ⟨k, ?_, hA k (by rw [e]; rfl), ?_, ?_, ?_⟩
        · rw [e]; rfl
        · rw [(t1 k hk).2.2]; exact e
        · rw [(t1 k hk).1]; exact hk
        · rw [(t1 k hk).1, ta]; have := (h.vis k hk).le; omega
    · have hx' := old x e hx
      have hV := h.vis x hx'
      refine ⟨?_, ?_⟩
      · rw [(t1 x hx').1]; show _ ≤ s.T + 1; have := hV.le; omega
      · rw [(t1 x hx').1, (t1 x hx').2.1, (t1 x hx').2.2]
        rcases hV.way with q | ⟨k, q1, q2, q3, q4, q5⟩
        · exact Or.inl q
        · exact Or.inr ⟨k, q1, q2, by rw [(t1 k q4).2.2]; exact q3, by rw [(t1 k q4).1]; exact q4, by rw [(t1 k q4).1]; exact q5⟩
  · intro x hx
    by_cases e : x = a
    · subst e; exact ha
    · exact h.lt x (old x e hx)
  · intro x hx
    rcases List.mem_cons.1 hx with e | hx
    · subst e; rw [ta]; omega
    · rw [(t1 x (h.act x hx)).1]; exact h.act x hx
  · exact Or.inr ⟨a, by rw [show (arrived s a A L).K a = A from upd_self ..], by rw [ta]; omega⟩
  · intro x hx hn
    have e : x ≠ a := fun e => hn (e ▸ List.mem_cons_self)
    have hx' := old x e hx
    have hF := h.fin x hx' fun q => hn (List.mem_cons_of_mem _ q)
    exact hF.keep (h.way hx') t1 fun y hy => t2 y (hF.vis y hy)
  · intro b x hb hn hN
    have e : b ≠ a := fun e => hn (e ▸ List.mem_cons_self)
    have hb' := old b e hb
    have hbA : b ∉ A := fun q => hn (List.mem_cons_of_mem _ q)
    rw [(t2 b hb').1] at hN
    intro hx
    rcases List.mem_cons.1 hx with q | q
    · exact ne ((h.fin b hb' hbA).vis x hN) q
    · exact h.off b x hb' hbA hN q
  · intro x hx
    have e : x ≠ a := fun e => by subst e; omega
    rw [show (arrived s a A L).turn x = s.turn x from upd_ne _ _ e] at hx
    rw [show (arrived s a A L).pieces x = s.pieces x from upd_ne _ _ e]
    exact h.zero x hx
  · have := free_one (n := n) ha h0 (v := s.T + 1) (Nat.succ_pos _)
    have h1 := h.sum
    show s.T + 1 + cnt n (fun x => decide (upd s.turn a (s.T + 1) x = 0)) = n
    omega
  · intro x h1 h2
    obtain rfl := one x h1 h2
    exact ⟨by rw [ta]; omega, upd_self .., fun q => absurd rfl q⟩
  · intro x h1 h2
    obtain rfl := one x h1 h2
    exact CIn.refl _ _ _
  · intro y hy; cases hy
  · rw [ta]; exact Nat.le_of_eq (upd_self ..)
  · intro x y h1 h2 _ _ h3
    obtain rfl := one x h1 h2
    rcases h3 with q | q
    · exact absurd rfl q
    · cases q
  · exact Or.inl (by rw [ta]; exact upd_self ..)
  · intro x h1 h2 h3; exact absurd (one x h1 h2) h3
  · intro x h1 h2 h3; exact absurd (one x h1 h2) h3
  · refine ⟨[], List.nodup_nil, by rw [fra]; exact upd_self .., fun c => ⟨fun q => absurd q List.not_mem_nil, fun q => ?_⟩⟩
    obtain rfl := one c q.1.1 q.1.2
    rw [fra] at q
    exact absurd q.2.1 (frOf_ne h h0)
  · show (upd s.pieces a (if frOf A = -1 then 0 else 1)) a ≤ _
    rw [upd_self]; split <;> simp

theorem Mid.skip (h : Mid E n s0 s a A l L) (hb : s.fr a = (b : Nat)) (hv : 0 < s.turn b) : Mid E n s0 s a A (l ++ [b]) L :=
  { h with
    done := fun y hy => by
      rcases List.mem_append.1 hy with q | q
      · exact h.done y q
      · obtain rfl := List.mem_singleton.1 q; exact hv
    back_lo := fun x y q1 q2 q3 q4 q5 q6 => h.back_lo x y q1 q2 q3 q4 (by
      rcases q5 with q | q
      · exact Or.inl q
      · rcases List.mem_append.1 q with r | r
        · exact Or.inr r
        · obtain rfl := List.mem_singleton.1 r
          rcases q6 with t | t
          · exact Or.inl t
          · exact absurd hb t) q6
    few := by have := h.few; rw [List.length_append]; omega }

def touch (s : St) (a v p : Nat) : St := { s with back := upd s.back a v, pieces := upd s.pieces a p }

theorem Inv.touch (h : Inv E n s (a :: A)) (v p : Nat) : Inv E n (touch s a v p) (a :: A) := by
  refine ⟨fun x hx => ⟨(h.vis x hx).le, (h.vis x hx).way⟩, h.lt, h.act, h.top, fun x hx hn => ?_, h.off, fun x hx => ?_, h.sum⟩
  · exact (h.fin x hx hn).keep (h.way hx) (fun y _ => ⟨rfl, rfl, rfl⟩) fun y hy => by
      have : y ≠ a := fun e => h.off x y hx hn hy (e ▸ List.mem_cons_self)
      exact ⟨rfl, upd_ne _ _ this, upd_ne _ _ this⟩
  · have : x ≠ a := fun e => by
      have := h.act a List.mem_cons_self
      subst e
      have hx : s.turn x = 0 := hx
      omega
    exact (upd_ne _ _ this).trans (h.zero x hx)

theorem Mid.kid_ne (h : Mid E n s0 s a A l L) (hc : s.fr c = (a : Nat)) : c ≠ a := fun e => by
  subst e
  rw [h.fra] at hc
  exact frOf_ne h.pre h.unseen hc

theorem Mid.back (h : Mid E n s0 s a A l L) (hv : 0 < s.turn b) (he : Adj E a b) (hb : s.fr a ≠ (b : Nat)) : Mid E n s0 (touch s a (min (s.back a) (s.turn b)) (s.pieces a)) a A (l ++ [b]) L := by
  have tb : (touch s a (min (s.back a) (s.turn b)) (s.pieces a)).back a = min (s.back a) (s.turn b) := upd_self ..
  have tp : (touch s a (min (s.back a) (s.turn b)) (s.pieces a)).pieces a = s.pieces a := upd_self ..
  have pa := h.inv.act a List.mem_cons_self
  refine ⟨h.pre, h.inv.touch .., fun x hx => ?_, h.unseen, h.T, h.ta, h.fra, h.way, h.new, h.conn, fun y hy => ?_, ?_, ?_, ?_, h.child, h.up, ?_, ?_⟩
  · have q := h.keep x hx
    have e : x ≠ a := fun e => by subst e; have := h.unseen; omega
    exact ⟨q.turn, q.fr, q.least, (upd_ne _ _ e).trans q.back, (upd_ne _ _ e).trans q.pieces, q.K, q.N⟩
  · rcases List.mem_append.1 hy with q | q
    · exact h.done y q
    · obtain rfl := List.mem_singleton.1 q; exact hv
  · rw [tb]; have := h.back_le; show _ ≤ s.turn a; omega
  · intro x y q1 q2 q3 q4 q5 q6
    rw [tb]
    show _ ≤ s.turn y
    by_cases e : y = b
    · subst e; omega
    · have := h.back_lo x y q1 q2 q3 q4 (by
        rcases q5 with q | q
        · exact Or.inl q
        · rcases List.mem_append.1 q with r | r
          · exact Or.inr r
          · exact absurd (List.mem_singleton.1 r) e) q6
      omega
  · rw [tb]
    show _ = s.turn a ∨ ∃ x y, (s0.turn x = 0 ∧ 0 < s.turn x) ∧ _ ∧ _ ∧ (x ≠ a ∨ s.fr a ≠ _) ∧ _ = s.turn y
    by_cases hm : s.back a ≤ s.turn b
    · rw [Nat.min_eq_left hm]; exact h.back_is
    · rw [Nat.min_eq_right (by omega)]
      by_cases h0 : s0.turn b = 0
      · exfalso
        have q := h.new b h0 hv
        have := h.back_le
        by_cases e : b = a
        · subst e; omega
        · have := q.2.2 e; omega
      · exact Or.inr ⟨a, b, ⟨h.unseen, pa⟩, he, by omega, Or.inr hb, rfl⟩
  · obtain ⟨H, q1, q2, q3⟩ := h.count
    refine ⟨H, q1, by rw [tp]; exact q2, fun c => ?_⟩
    rw [q3 c]
    refine and_congr_right fun _ => and_congr_right fun r => ?_
    show _ ↔ s.turn a ≤ upd s.back a _ c
    rw [upd_ne _ _ (h.kid_ne r)]
  · rw [tp, List.length_append]; have := h.few; omega

theorem Mid.kid (h : Mid E n s0 s a A l L) (hw : Walked E n s s' b (a :: A) L) (he : Adj E a b) :
    Mid E n s0 (touch s' a (min (s'.back a) (s'.back b)) (s'.pieces a + if s'.turn a ≤ s'.back b then 1 else 0)) a A (l ++ [b]) L := by
  obtain ⟨s2, hs2⟩ : ∃ s2, s2 = touch s' a (min (s'.back a) (s'.back b)) (s'.pieces a + if s'.turn a ≤ s'.back b then 1 else 0) := ⟨_, rfl⟩
  rw [← hs2]
  have pa := h.inv.act a List.mem_cons_self
  have ka := hw.keep a pa
  have e1 : s2.turn = s'.turn := by rw [hs2]; rfl
  have e2 : s2.fr = s'.fr := by rw [hs2]; rfl
  have e3 : s2.least = s'.least := by rw [hs2]; rfl
  have e4 : s2.K = s'.K := by rw [hs2]; rfl
  have e5 : s2.N = s'.N := by rw [hs2]; rfl
  have e6 : s2.T = s'.T := by rw [hs2]; rfl
  have tb : s2.back a = min (s'.back a) (s'.back b) := by rw [hs2]; exact upd_self ..
  have tb' : ∀ x, x ≠ a → s2.back x = s'.back x := fun x hx => by rw [hs2]; exact upd_ne _ _ hx
  have tp : s2.pieces a = s'.pieces a + if s'.turn a ≤ s'.back b then 1 else 0 := by rw [hs2]; exact upd_self ..
  have tp' : ∀ x, x ≠ a → s2.pieces x = s'.pieces x := fun x hx => by rw [hs2]; exact upd_ne _ _ hx
  have hba : b ≠ a := fun e => by subst e; have := hw.unseen; omega
  have hbA : b ∉ a :: A := fun q => by have := h.inv.act b q; have := hw.unseen; omega
  have hF := hw.inv.fin b hw.seen hbA
  have hu0 : s0.turn b = 0 := Classical.byContradiction fun q => by
    have := h.keep.pos (x := b) (by omega)
    have := hw.unseen
    omega
  have sp : ∀ x, s0.turn x = 0 → 0 < s'.turn x → (0 < s.turn x) ∨ (s.turn x = 0 ∧ s'.N b x) := fun x q1 q2 => by
    rcases Nat.eq_zero_or_pos (s.turn x) with q | q
    · exact Or.inr ⟨q, (hw.set x).2 ⟨q, q2⟩⟩
    · exact Or.inl q
  have nb : ∀ x, s'.N b x → s0.turn x = 0 ∧ 0 < s'.turn x ∧ s.turn x = 0 := fun x q => by
    obtain ⟨q1, q2⟩ := (hw.set x).1 q
    refine ⟨Classical.byContradiction fun r => ?_, q2, q1⟩
    have := h.keep.pos (x := x) (by omega)
    omega
  have grow : ∀ x, 0 < s.turn x → 0 < s'.turn x := fun x q => hw.keep.pos q
  have tla : s.turn a ≤ s.T := (h.inv.vis a pa).le
  have lateb := hw.new b hw.unseen hw.seen
  constructor
  case pre => exact h.pre
  case inv => rw [hs2]; exact hw.inv.touch ..
  case keep =>
    intro x hx
    have q := (h.keep x hx).trans (hw.keep x (h.keep.pos hx))
    have e : x ≠ a := fun e => by subst e; have := h.unseen; omega
    exact ⟨by rw [e1]; exact q.turn, by rw [e2]; exact q.fr, by rw [e3]; exact q.least, (tb' x e).trans q.back, (tp' x e).trans q.pieces, by rw [e4]; exact q.K, by rw [e5]; exact q.N⟩
  case unseen => exact h.unseen
  case T => rw [e6]; have := h.T; have := hw.T; omega
  case ta => rw [e1, ka.turn]; exact h.ta
  case fra => rw [e2, ka.fr]; exact h.fra
  case way => rw [e4, ka.K]; exact h.way
  case new =>
    intro x q1 q2
    rw [e1] at q2 ⊢
    rw [e3]
    rcases sp x q1 q2 with q | ⟨q, q'⟩
    · have k := hw.keep x q
      rw [k.turn, k.least, ka.turn]
      exact h.new x q1 q
    · have r := hw.new x q q2
      have := h.T
      refine ⟨by omega, r.2, fun _ => ?_⟩
      rw [ka.turn]
      omega
  case conn =>
    intro x q1 q2
    rw [e1] at q2 ⊢
    rcases sp x q1 q2 with q | ⟨q, q'⟩
    · exact (h.conn x q1 q).mono fun z hz => ⟨hz.1, grow z hz.2⟩
    · exact ((hF.conn x q').mono fun z hz => ⟨(nb z hz).1, (nb z hz).2.1⟩).trans (CIn.edge he.symm ⟨hu0, hw.seen⟩ ⟨h.unseen, grow a pa⟩)
  case done =>
    intro y hy
    rw [e1]
    rcases List.mem_append.1 hy with q | q
    · exact grow y (h.done y q)
    · obtain rfl := List.mem_singleton.1 q; exact hw.seen
  case back_le => rw [tb, e1, ka.back, ka.turn]; have := h.back_le; omega
  case back_lo =>
    intro x y q1 q2 q3 q4 q5 q6
    rw [e1] at q2 ⊢
    rw [e2] at q6
    rw [tb]
    have ky := h.keep.pos q4
    rcases sp x q1 q2 with q | ⟨q, q'⟩
    · have := h.back_lo x y q1 q q3 q4 (by
        rcases q5 with r | r
        · exact Or.inl r
        · rcases List.mem_append.1 r with t | t
          · exact Or.inr t
          · obtain rfl := List.mem_singleton.1 t; omega) (by rw [ka.fr] at q6; exact q6)
      rw [(hw.keep y ky).turn, ka.back]
      omega
    · have := hF.back_lo x y q' q3 (fun r => by have := (nb y r).1; omega) (Or.inr fun r => by
        rw [hw.fra] at r
        have r : ((a : Nat) : Int) = (y : Nat) := r
        have : a = y := by omega
        subst this
        have := h.unseen
        omega)
      omega
  case back_is =>
    rw [tb, e1, e2]
    by_cases hm : s'.back a ≤ s'.back b
    · rw [Nat.min_eq_left hm, ka.back, ka.turn]
      rcases h.back_is with q | ⟨x, y, q1, q2, q3, q4, q5⟩
      · exact Or.inl q
      · exact Or.inr ⟨x, y, ⟨q1.1, grow x q1.2⟩, q2, q3, by rw [ka.fr]; exact q4, by rw [(hw.keep y (h.keep.pos q3)).turn]; exact q5⟩
    · rw [Nat.min_eq_right (by omega)]
      have hle := h.back_le
      rw [ka.back] at hm
      rcases hF.back_is with q | ⟨x, y, q1, q2, q3, q4, q5⟩
      · omega
      · have hy := hF.out x y q1 q2 q3
        rw [hw.way] at hy
        rcases List.mem_cons.1 hy with r | r
        · subst r; rw [ka.turn] at q5; omega
        · exact Or.inr ⟨x, y, ⟨(nb x q1).1, (nb x q1).2.1⟩, q2, h.pre.act y r, Or.inl (fun t => by subst t; have := (nb x q1).2.2; omega), q5⟩
  case child =>
    intro x q1 q2 q3
    rw [e1] at q2 ⊢
    rw [e2, e5]
    rcases sp x q1 q2 with q | ⟨q, q'⟩
    · obtain ⟨c, r1, r2, r3, r4⟩ := h.child x q1 q q3
      exact ⟨c, by rw [(hw.keep c r2.2).fr]; exact r1, ⟨r2.1, grow c r2.2⟩, by rw [(hw.keep c r2.2).N]; exact r3, r4⟩
    · exact ⟨b, hw.fra, ⟨hu0, hw.seen⟩, q', hba⟩
  case up =>
    intro x q1 q2 q3
    rw [e1] at q2 ⊢
    rw [e2]
    rcases sp x q1 q2 with q | ⟨q, q'⟩
    · obtain ⟨k, r1, r2, r3⟩ := h.up x q1 q q3
      exact ⟨k, by rw [(hw.keep x q).fr]; exact r1, r2, grow k r3⟩
    · by_cases e : x = b
      · subst e; exact ⟨a, hw.fra, h.unseen, grow a pa⟩
      · obtain ⟨k, r1, r2⟩ := hF.up x q' e
        exact ⟨k, r1, (nb k r2).1, (nb k r2).2.1⟩
  case count =>
    obtain ⟨H, q1, q2, q3⟩ := h.count
    have hbH : b ∉ H := fun r => by have := ((q3 b).1 r).1.2; have := hw.unseen; omega
    have mem : ∀ c, (s0.turn c = 0 ∧ 0 < s2.turn c) ∧ s2.fr c = (a : Nat) ∧ s2.turn a ≤ s2.back c ↔ c ∈ H ∨ (c = b ∧ s'.turn a ≤ s'.back b) := fun c => by
      rw [e1, e2]
      constructor
      · rintro ⟨⟨r1, r2⟩, r3, r4⟩
        have hca : c ≠ a := fun e => by
          subst e
          rw [ka.fr, h.fra] at r3
          exact frOf_ne h.pre h.unseen r3
        rw [tb' c hca] at r4
        rcases sp c r1 r2 with q | ⟨q, q'⟩
        · have kc := hw.keep c q
          rw [kc.fr] at r3
          rw [kc.back, ka.turn] at r4
          exact Or.inl ((q3 c).2 ⟨⟨r1, q⟩, r3, r4⟩)
        · right
          have : c = b := Classical.byContradiction fun e => by
            obtain ⟨k, t1, t2⟩ := hF.up c q' e
            obtain rfl : k = a := by rw [r3] at t1; omega
            have := (nb k t2).2.2
            omega
          subst this
          exact ⟨rfl, r4⟩
      · rintro (r | ⟨rfl, r⟩)
        · obtain ⟨⟨r1, r2⟩, r3, r4⟩ := (q3 c).1 r
          have kc := hw.keep c r2
          rw [tb' c (h.kid_ne r3), kc.fr, kc.back, ka.turn]
          exact ⟨⟨r1, grow c r2⟩, r3, r4⟩
        · rw [tb' c hba]
          exact ⟨⟨hu0, hw.seen⟩, hw.fra, r⟩
    by_cases hm : s'.turn a ≤ s'.back b
    · refine ⟨b :: H, List.nodup_cons.2 ⟨hbH, q1⟩, ?_, fun c => ?_⟩
      · rw [tp, if_pos hm, ka.pieces, e2, ka.fr, q2, List.length_cons]; omega
      · rw [mem c, List.mem_cons]
        constructor
        · rintro (r | r)
          · exact Or.inr ⟨r, hm⟩
          · exact Or.inl r
        · rintro (r | r)
          · exact Or.inr r
          · exact Or.inl r.1
    · refine ⟨H, q1, ?_, fun c => ?_⟩
      · rw [tp, if_neg hm, ka.pieces, e2, ka.fr, q2]; omega
      · rw [mem c]
        exact ⟨Or.inl, fun r => r.elim id fun r => absurd r.2 hm⟩
  case few =>
    rw [tp, ka.pieces, List.length_append]
    have := h.few
    have : [b].length = 1 := rfl
    split <;> omega

theorem Mid.walked (h : Mid E n s0 s a A l L) (hl : ∀ y, Adj E a y → y ∈ l) : Walked E n s0 { s with N := upd s.N a (fun x => s0.turn x = 0 ∧ 0 < s.turn x) } a A L := by
  obtain ⟨s2, hs2⟩ : ∃ s2 : St, s2 = { s with N := upd s.N a (fun x => s0.turn x = 0 ∧ 0 < s.turn x) } := ⟨_, rfl⟩
  rw [← hs2]
  have pa := h.inv.act a List.mem_cons_self
  have e1 : s2.turn = s.turn := by rw [hs2]
  have e2 : s2.fr = s.fr := by rw [hs2]
  have e3 : s2.least = s.least := by rw [hs2]
  have e4 : s2.K = s.K := by rw [hs2]
  have e5 : s2.N a = fun x => s0.turn x = 0 ∧ 0 < s.turn x := by rw [hs2]; exact upd_self ..
  have e5' : ∀ x, x ≠ a → s2.N x = s.N x := fun x hx => by rw [hs2]; exact upd_ne _ _ hx
  have e6 : s2.T = s.T := by rw [hs2]
  have e7 : s2.back = s.back := by rw [hs2]
  have e8 : s2.pieces = s.pieces := by rw [hs2]
  have offA : ∀ x, s0.turn x = 0 → x ∉ A := fun x q r => by have := h.pre.act x r; omega
  have kn : ∀ x y, s0.turn x = 0 → 0 < s.turn x → Adj E x y → 0 < s.turn y := fun x y q1 q2 q3 => by
    by_cases e : x = a
    · subst e; exact h.done y (hl y q3)
    · exact (h.inv.fin x q2 fun r => (List.mem_cons.1 r).elim e (offA x q1)).near y q3
  have od : ∀ x y, s0.turn x = 0 → 0 < s.turn x → Adj E x y → ¬ (s0.turn y = 0 ∧ 0 < s.turn y) → 0 < s0.turn y ∧ y ∈ A := fun x y q1 q2 q3 q4 => by
    have hy := kn x y q1 q2 q3
    have h0 : 0 < s0.turn y := by omega
    refine ⟨h0, Classical.byContradiction fun r => ?_⟩
    have := (h.pre.fin y h0 r).near x q3.symm
    omega
  have inv : Inv E n s2 A := by
    constructor
    · intro x hx
      rw [e1] at hx
      refine ⟨by rw [e1, e6]; exact (h.inv.vis x hx).le, ?_⟩
      rw [e1, e2, e4]
      exact (h.inv.vis x hx).way
    · rw [e1]; exact h.inv.lt
    · rw [e1]; exact fun x hx => h.inv.act x (List.mem_cons_of_mem _ hx)
    · rw [e1, e4]
      rcases h.pre.top with q | ⟨k, q1, q2⟩
      · exact Or.inl q
      · exact Or.inr ⟨k, by rw [(h.keep k q2).K]; exact q1, h.keep.pos q2⟩
    · intro x hx hn
      by_cases e : x = a
      · subst e
        constructor
        · rw [e5]; exact ⟨h.unseen, pa⟩
        · rw [e5, e1]; exact fun y q => q.2
        · rw [e5, e1]; exact fun y q r => (h.new y q.1 q.2).2.2 r
        · rw [e5]; exact fun y q => h.conn y q.1 q.2
        · rw [e5, e4, h.way]; exact fun i j q1 q2 q3 => (od i j q1.1 q1.2 q2 q3).2
        · rw [e7, e1]; exact h.back_le
        · rw [e5, e7, e1, e2]
          exact fun i j q1 q2 q3 q4 => h.back_lo i j q1.1 q1.2 q2 (od i j q1.1 q1.2 q2 q3).1 (by
            by_cases e : i = x
            · subst e; exact Or.inr (hl j q2)
            · exact Or.inl e) q4
        · rw [e5, e7, e1, e2]
          rcases h.back_is with q | ⟨i, j, q1, q2, q3, q4, q5⟩
          · exact Or.inl q
          · exact Or.inr ⟨i, j, q1, q2, fun r => by have := r.1; omega, q4, q5⟩
        · intro y q r
          rw [e5] at q
          obtain ⟨c, r1, r2, r3, r4⟩ := h.child y q.1 q.2 r
          exact ⟨c, by rw [e2]; exact r1, by rw [e5]; exact r2, by rw [e5' c r4]; exact r3⟩
        · intro y q r
          rw [e5] at q
          obtain ⟨k, r1, r2⟩ := h.up y q.1 q.2 r
          exact ⟨k, by rw [e2]; exact r1, by rw [e5]; exact r2⟩
        · rw [e5, e1, e2, e7, e8]; exact h.count
        · rw [e1]; exact fun y q => kn x y h.unseen pa q
      · rw [e1] at hx
        have hn' : x ∉ a :: A := fun r => (List.mem_cons.1 r).elim e hn
        exact (h.inv.fin x hx hn').keep (h.inv.way hx) (fun y _ => by rw [e1, e2, e4]; exact ⟨rfl, rfl, rfl⟩) fun y hy => by
          have : y ≠ a := fun e => h.inv.off x y hx hn' hy (e ▸ List.mem_cons_self)
          rw [e7, e8]
          exact ⟨e5' y this, rfl, rfl⟩
    · intro b x hb hn hN
      by_cases e : b = a
      · subst e; rw [e5] at hN; exact offA x hN.1
      · rw [e5' b e] at hN
        rw [e1] at hb
        exact fun r => h.inv.off b x hb (fun r => (List.mem_cons.1 r).elim e hn) hN (List.mem_cons_of_mem _ r)
    · rw [e1, e8]; exact h.inv.zero
    · rw [e1, e6]; exact h.inv.sum
  refine ⟨inv, fun x hx => ?_, h.unseen, by rw [e1]; exact pa, by rw [e6]; exact h.T, by rw [e4]; exact h.way, by rw [e2]; exact h.fra, fun x => by rw [e5, e1], fun x q1 q2 => ?_⟩
  · have q := h.keep x hx
    have e : x ≠ a := fun e => by subst e; have := h.unseen; omega
    exact ⟨by rw [e1]; exact q.turn, by rw [e2]; exact q.fr, by rw [e3]; exact q.least, by rw [e7]; exact q.back, by rw [e8]; exact q.pieces, by rw [e4]; exact q.K, (e5' x e).trans q.N⟩
  · rw [e1] at q2 ⊢
    rw [e3]
    exact ⟨(h.new x q1 q2).1, (h.new x q1 q2).2.1⟩

def blank : St := ⟨fun _ => 0, fun _ => 0, fun _ => 0, fun _ => 0, fun _ => 0, fun _ => [], fun _ _ => False, 0⟩

theorem inv_blank (E : List (Nat × Nat)) (n : Nat) : Inv E n blank [] := by
  refine ⟨fun x h => absurd h (Nat.lt_irrefl 0), fun x h => absurd h (Nat.lt_irrefl 0), fun x h => (by cases h), Or.inl rfl, fun x h => absurd h (Nat.lt_irrefl 0), fun x y h => absurd h (Nat.lt_irrefl 0), fun _ _ => rfl, ?_⟩
  show 0 + cnt n (fun x => decide ((0 : Nat) = 0)) = n
  rw [Nat.zero_add]
  exact (cnt_congr n fun i _ => by simp).trans (cnt_id n)

structure Roots (E : List (Nat × Nat)) (n : Nat) (p : Nat → Nat) (s : St) (i : Nat) : Prop where
  inv : Inv E n s []
  seen : ∀ x, x < i → 0 < s.turn x
  least : ∀ x, 0 < s.turn x → s.least x = p x

theorem Roots.pass {p : Nat → Nat} {i : Nat} (h : Roots E n p s i) (hi : 0 < s.turn i) : Roots E n p s (i + 1) :=
  ⟨h.inv, fun x hx => by
    rcases Nat.lt_or_ge x i with q | q
    · exact h.seen x q
    · obtain rfl : x = i := by omega
      exact hi, h.least⟩

theorem Roots.walk {p : Nat → Nat} {i : Nat} (h : Roots E n p s i) (hp : Rest E p) (hw : Walked E n s s' i [] i) : Roots E n p s' (i + 1) := by
  have hF := hw.inv.fin i hw.seen (by simp)
  have cl : ∀ x, Conn E i x → s'.N i x := fun x hc => (closed (P := s'.N i) hc fun u v e => by
    have no : ∀ u v, Adj E u v → s'.N i u → s'.N i v := fun u v e hu => Classical.byContradiction fun q => by
      have := hF.out u v hu e q
      rw [hw.way] at this
      cases this
    exact ⟨no u v (Or.inl e), no v u (Or.inr e)⟩).1 hF.self
  have pi : p i = i := Classical.byContradiction fun q => by
    have h1 := hp.le i
    have h2 := (hw.set _).1 (cl _ (hp.conn i))
    have h3 := h.seen (p i) (by omega)
    omega
  refine ⟨hw.inv, fun x hx => ?_, fun x hx => ?_⟩
  · rcases Nat.lt_or_ge x i with q | q
    · exact hw.keep.pos (h.seen x q)
    · obtain rfl : x = i := by omega
      exact hw.seen
  · by_cases q : 0 < s.turn x
    · rw [(hw.keep x q).least]; exact h.least x q
    · have q0 : s.turn x = 0 := by omega
      rw [(hw.new x q0 hx).2]
      have hc : Conn E x i := (hF.conn x ((hw.set x).2 ⟨q0, hx⟩)).conn fun u v e _ _ => e.conn
      rw [(hp.same x i).2 hc, pi]

theorem roots_blank (E : List (Nat × Nat)) (n : Nat) (p : Nat → Nat) : Roots E n p blank 0 := ⟨inv_blank E n, fun x h => absurd h (Nat.not_lt_zero _), fun x h => absurd h (Nat.lt_irrefl 0)⟩

end Go.Proofs.YtcfemppdeidjmacGreat.Br

namespace Go.Proofs.YtcfemppdeidjmacGreat.Br
open Go.RowKit Go.Deep
open Go.RowKit (Below)
set_option linter.unusedVariables false

theorem Tryz.infoInt : (Tryz.prog.info? 3).map (fun i => (i.zero, i.size, i.bytes)) = some (some (.int .i64 0), 1, 8) := by kernel_rfl

theorem cell_keep {W w' : World} {p : Addr} {v : Value} (hb : Below W.heap.size W w') (h : W.cell? p = some v) : w'.cell? p = some v :=
  (hb.cell (World.block_lt_of_cell? _ _ h)).trans h
theorem below_step {w a b : World} (h1 : Below w.heap.size w a) (h2 : Below a.heap.size a b) : Below w.heap.size w b := h1.trans (h2.mono h1.size)
theorem below_drewN {w a : World} {n : Nat} (h : a = w.drewN n) : Below w.heap.size w a := by
  subst h
  induction n with
  | zero => exact Below.refl _ _
  | succ n ih => exact ih.drew

def ev (a b : Int) : Value := .agg #[.int .i64 a, .int .i64 b]

theorem cell_one_new (w : World) (v : Value) (t : TypeId) : ∀ k u, [v][k]? = some u → (w.alloc (.cells #[v] t)).cell? (Addr.add ⟨w.heap.size, 0, none⟩ k) = some u
  | 0, u, h => by simp at h; subst h; simp [Addr.add]
  | k + 1, u, h => by simp at h

variable {w w' : World} {p p' : Nat → Nat} {E E' : List (Nat × Nat)}

def two (e : Nat × Nat) : List Value := [.int .i64 (e.1 : Int), .int .i64 (e.2 : Int)]
def twos (l : List (Nat × Nat)) : List Value := l.flatMap two

theorem twos_snoc (l : List (Nat × Nat)) (e : Nat × Nat) : twos (l ++ [e]) = twos l ++ two e := by simp [twos]

set_option maxRecDepth 1000000 in
theorem Tryz.infoEdge : (Tryz.prog.info? 44).map (fun i => (i.zero, i.size, i.bytes)) = some (some (.agg #[.int .i64 0, .int .i64 0]), 2, 16) := by kernel_rfl

structure EdgesAt (w : World) (a : Option Addr) (E : List (Nat × Nat)) : Prop where
  cell : ∀ i, i < E.length → ∃ b o, a = some ⟨b, o, none⟩ ∧ w.cell? ⟨b, o + i * 2, none⟩ = some (.int .i64 ((E.getD i (0, 0)).1 : Nat)) ∧ w.cell? ⟨b, o + i * 2 + 1, none⟩ = some (.int .i64 ((E.getD i (0, 0)).2 : Nat))

theorem own_keep {base n s : Nat} {ty : TypeId} {v : Value} {xs : List Value} (h : w.ownsRow base ty s v n xs) (hb : Below w.heap.size w w') : w'.ownsRow base ty s v n xs := by
  refine ⟨h.1, ?_⟩
  rcases h.2 with h0 | ⟨g, cap, cur, hv, h1, h2, h3⟩
  · exact Or.inl h0
  · exact Or.inr ⟨g, cap, cur, hv, h1, (hb.block g (Array.getElem?_eq_some_iff.1 h2).1).trans h2, h3⟩

theorem EdgesAt.below {a : Option Addr} (h : EdgesAt w a E) (hb : Below w.heap.size w w') : EdgesAt w' a E := ⟨fun i hi => by
  obtain ⟨b, o, e, h1, h2⟩ := h.cell i hi
  exact ⟨b, o, e, cell_keep hb h1, cell_keep hb h2⟩⟩

end Go.Proofs.YtcfemppdeidjmacGreat.Br
