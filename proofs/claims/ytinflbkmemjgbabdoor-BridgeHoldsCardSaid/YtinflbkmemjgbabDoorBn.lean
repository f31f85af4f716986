/-
  A walk that goes as deep as it can, plain: what it has found when it is done tells bridges and joints.
-/
import Derived.Test.YtinflbkmemjgbabDoorBb
namespace Go.Proofs.YtinflbkmemjgbabDoor.Br
set_option linter.unusedVariables false

variable {E F : List (Nat × Nat)} {a b c u v x y z k n : Nat} {P P' : Nat → Prop}

def Adj (E : List (Nat × Nat)) (a b : Nat) : Prop := (a, b) ∈ E ∨ (b, a) ∈ E
theorem Adj.symm (h : Adj E a b) : Adj E b a := Or.symm h
theorem Adj.conn (h : Adj E a b) : Conn E a b := h.elim conn_edge fun h => (conn_eqv E).symm (conn_edge h)

/-- Joined by edges between such nodes alone. -/
def CIn (E : List (Nat × Nat)) (P : Nat → Prop) (x y : Nat) : Prop := ∀ Q : Nat → Nat → Prop, Eqv Q → (∀ u v, Adj E u v → P u → P v → Q u v) → Q x y

theorem CIn.refl (E : List (Nat × Nat)) (P : Nat → Prop) (x : Nat) : CIn E P x x := fun Q h _ => h.refl x
theorem CIn.trans (h : CIn E P x y) (h' : CIn E P y z) : CIn E P x z := fun Q q e => q.trans (h Q q e) (h' Q q e)
theorem CIn.symm (h : CIn E P x y) : CIn E P y x := fun Q q e => q.symm (h Q q e)
theorem CIn.edge (h : Adj E x y) (hx : P x) (hy : P y) : CIn E P x y := fun Q q e => e x y h hx hy
theorem CIn.mono (h : CIn E P x y) (hp : ∀ z, P z → P' z) : CIn E P' x y := fun Q q e => h Q q fun u v h1 h2 h3 => e u v h1 (hp u h2) (hp v h3)
theorem CIn.conn (h : CIn E P x y) (hp : ∀ u v, Adj E u v → P u → P v → Conn F u v) : Conn F x y := h _ (conn_eqv F) hp

/-- Nodes that no edge leaves. -/
theorem closed (h : Conn F x y) (hp : ∀ u v, (u, v) ∈ F → (P u ↔ P v)) : P x ↔ P y :=
  h (fun u v => P u ↔ P v) ⟨⟨fun _ => Iff.rfl, fun h => h.symm, fun h k => h.trans k⟩, fun e he => hp e.1 e.2 he⟩

/-- What a walk has found. K: the way on which it came to a node, back to the first; N: what hangs behind it. -/
structure St where
  turn : Nat → Nat
  fr : Nat → Int
  least : Nat → Nat
  back : Nat → Nat
  pieces : Nat → Nat
  K : Nat → List Nat
  N : Nat → Nat → Prop
  T : Nat

variable {s s' s0 : St}

structure Vis (E : List (Nat × Nat)) (s : St) (x : Nat) : Prop where
  le : s.turn x ≤ s.T
  way : (s.K x = [] ∧ s.fr x = -1) ∨ ∃ k : Nat, s.fr x = (k : Nat) ∧ Adj E x k ∧ s.K x = k :: s.K k ∧ 0 < s.turn k ∧ s.turn k < s.turn x

/-- A node from which the walk has gone back. -/
structure Fin (E : List (Nat × Nat)) (s : St) (a : Nat) : Prop where
  self : s.N a a
  vis : ∀ x, s.N a x → 0 < s.turn x
  later : ∀ x, s.N a x → x ≠ a → s.turn a < s.turn x
  conn : ∀ x, s.N a x → CIn E (s.N a) x a
  out : ∀ x y, s.N a x → Adj E x y → ¬ s.N a y → y ∈ s.K a
  back_le : s.back a ≤ s.turn a
  back_lo : ∀ x y, s.N a x → Adj E x y → ¬ s.N a y → (x ≠ a ∨ s.fr a ≠ (y : Nat)) → s.back a ≤ s.turn y
  back_is : s.back a = s.turn a ∨ ∃ x y, s.N a x ∧ Adj E x y ∧ ¬ s.N a y ∧ (x ≠ a ∨ s.fr a ≠ (y : Nat)) ∧ s.back a = s.turn y
  child : ∀ x, s.N a x → x ≠ a → ∃ c, s.fr c = (a : Nat) ∧ s.N a c ∧ s.N c x
  up : ∀ x, s.N a x → x ≠ a → ∃ k : Nat, s.fr x = (k : Nat) ∧ s.N a k
  count : ∃ H : List Nat, H.Nodup ∧ s.pieces a = (if s.fr a = -1 then 0 else 1) + H.length ∧ ∀ c, c ∈ H ↔ s.N a c ∧ s.fr c = (a : Nat) ∧ s.turn a ≤ s.back c
  near : ∀ y, Adj E a y → 0 < s.turn y

/-- The way back is joined. -/
theorem way_in (hv : ∀ x, 0 < s.turn x → Vis E s x) : ∀ (l : List Nat) (x : Nat), 0 < s.turn x → s.K x = l → ∀ y ∈ l, 0 < s.turn y ∧ s.turn y < s.turn x ∧ ∃ k : Nat, s.fr x = (k : Nat) ∧ CIn E (· ∈ l) y k := by
  intro l
  induction l with
  | nil => intro x _ _ y hy; cases hy
  | cons k0 l0 ih =>
    intro x hx hK y hy
    rcases (hv x hx).way with ⟨h1, _⟩ | ⟨k, h1, h2, h3, h4, h5⟩
    · rw [hK] at h1; cases h1
    rw [hK] at h3
    injection h3 with e1 e2
    subst e1
    rcases List.mem_cons.1 hy with rfl | hy
    · exact ⟨h4, h5, y, h1, CIn.refl _ _ _⟩
    · obtain ⟨q1, q2, k', q3, q4⟩ := ih k0 h4 e2.symm y hy
      refine ⟨q1, by omega, k0, h1, ?_⟩
      rcases (hv k0 h4).way with ⟨g1, _⟩ | ⟨k2, g1, g2, g3, _, _⟩
      · rw [← e2] at g1; subst g1; cases hy
      obtain rfl : k2 = k' := by rw [q3] at g1; omega
      refine (q4.mono fun z hz => List.mem_cons_of_mem _ hz).trans (CIn.edge g2.symm ?_ List.mem_cons_self)
      rw [e2, g3]
      exact List.mem_cons_of_mem _ List.mem_cons_self

/-- The walk is done. -/
structure Deep (E : List (Nat × Nat)) (s : St) : Prop where
  vis : ∀ x, 0 < s.turn x → Vis E s x
  fin : ∀ x, 0 < s.turn x → Fin E s x

theorem Deep.way (h : Deep E s) (hx : 0 < s.turn x) (hy : y ∈ s.K x) : 0 < s.turn y ∧ s.turn y < s.turn x ∧ ∃ k : Nat, s.fr x = (k : Nat) ∧ CIn E (· ∈ s.K x) y k := way_in h.vis _ x hx rfl y hy

theorem Deep.not_in (h : Deep E s) (ha : 0 < s.turn a) (hy : s.turn y < s.turn a) : ¬ s.N a y := fun q => by
  by_cases e : y = a
  · subst e; omega
  · have := (h.fin a ha).later y q e
    omega

theorem Deep.from (h : Deep E s) (hx : 0 < s.turn x) (hf : s.fr x = (k : Nat)) : Adj E x k ∧ s.K x = k :: s.K k ∧ 0 < s.turn k ∧ s.turn k < s.turn x := by
  rcases (h.vis x hx).way with ⟨_, h1⟩ | ⟨k', h1, h2⟩
  · rw [hf] at h1; omega
  · obtain rfl : k' = k := by rw [hf] at h1; omega
    exact h2

/-- Without an edge between u and v. -/
structure Sans (E F : List (Nat × Nat)) (u v : Nat) : Prop where
  ne : u ≠ v
  to : ∀ x y, Adj E x y → ¬ (x = u ∧ y = v) → ¬ (x = v ∧ y = u) → Conn F x y
  of : ∀ x y, (x, y) ∈ F → Adj E x y ∧ ¬ (x = u ∧ y = v) ∧ ¬ (x = v ∧ y = u)

theorem Sans.symm (h : Sans E F u v) : Sans E F v u := ⟨h.ne.symm, fun x y h1 h2 h3 => h.to x y h1 h3 h2, fun x y q => ⟨(h.of x y q).1, (h.of x y q).2.2, (h.of x y q).2.1⟩⟩

theorem hang_yes (h : Deep E s) (hv : 0 < s.turn v) (hF : Sans E F u v) (hf : s.fr v = (u : Nat)) (hb : s.back v = s.turn v) : ¬ Conn F u v := fun hc => by
  obtain ⟨g1, g2, g3, g4⟩ := h.from hv hf
  have no : ∀ x y, Adj E x y → ¬ (x = v ∧ y = u) → s.N v x → s.N v y := fun x y q1 q2 q3 => Classical.byContradiction fun q4 => by
    have h1 := (h.fin v hv).out x y q3 q1 q4
    have h2 := (h.way hv h1).2.1
    have h3 := (h.fin v hv).back_lo x y q3 q1 q4 (by
      by_cases e : x = v
      · exact Or.inr fun e2 => q2 ⟨e, by rw [hf] at e2; omega⟩
      · exact Or.inl e)
    omega
  have := (closed (P := s.N v) hc fun x y q => ⟨no x y (hF.of x y q).1 (hF.of x y q).2.2, no y x (hF.of x y q).1.symm fun e => (hF.of x y q).2.1 ⟨e.2, e.1⟩⟩).2 (h.fin v hv).self
  exact h.not_in hv g4 this

theorem hang_no (h : Deep E s) (hv : 0 < s.turn v) (hF : Sans E F u v) (hf : s.fr v = (u : Nat)) (hb : s.back v ≠ s.turn v) : Conn F u v := by
  obtain ⟨g1, g2, g3, g4⟩ := h.from hv hf
  have hu := h.not_in hv g4
  rcases (h.fin v hv).back_is with q | ⟨x, y, q1, q2, q3, q4, q5⟩
  · exact absurd q hb
  obtain ⟨p1, p2, k, p3, p4⟩ := h.way hv ((h.fin v hv).out x y q1 q2 q3)
  obtain rfl : k = u := by rw [hf] at p3; omega
  have c1 : Conn F y k := p4.conn fun i j e hi hj => by
    have t1 := (h.way hv hi).2.1
    have t2 := (h.way hv hj).2.1
    exact hF.to i j e (fun e => by have := e.2; subst this; omega) (fun e => by have := e.1; subst this; omega)
  have c2 : Conn F x v := ((h.fin v hv).conn x q1).conn fun i j e hi hj => hF.to i j e (fun e => hu (e.1 ▸ hi)) (fun e => hu (e.2 ▸ hj))
  have c3 : Conn F x y := hF.to x y q2 (fun e => hu (e.1 ▸ q1)) (fun e => by
    rcases q4 with q | q
    · exact q e.1
    · exact q (by rw [hf, e.2]))
  exact (conn_eqv F).trans ((conn_eqv F).symm c1) ((conn_eqv F).trans ((conn_eqv F).symm c3) c2)

theorem hang_off (h : Deep E s) (hv : 0 < s.turn v) (hF : Sans E F u v) (he : Adj E v u) (hu : ¬ s.N v u) (hf : s.fr v ≠ (u : Nat)) : Conn F u v := by
  obtain ⟨p1, p2, k, p3, p4⟩ := h.way hv ((h.fin v hv).out v u (h.fin v hv).self he hu)
  obtain ⟨g1, g2, g3, g4⟩ := h.from hv p3
  have hku : k ≠ u := fun e => hf (by rw [p3, e])
  have hkv : k ≠ v := fun e => by subst e; omega
  have c1 : Conn F u k := p4.conn fun i j e hi hj => by
    have t1 := (h.way hv hi).2.1
    have t2 := (h.way hv hj).2.1
    exact hF.to i j e (fun e => by have := e.2; subst this; omega) (fun e => by have := e.1; subst this; omega)
  have c2 : Conn F v k := hF.to v k g1 (fun e => hF.ne e.1.symm) (fun e => hku e.2)
  exact (conn_eqv F).trans c1 ((conn_eqv F).symm c2)

theorem hang_iff (h : Deep E s) (hu : 0 < s.turn u) (hv : 0 < s.turn v) (hF : Sans E F u v) (he : Adj E u v) :
    ¬ Conn F u v ↔ (s.fr v = (u : Nat) ∧ s.back v = s.turn v) ∨ (s.fr u = (v : Nat) ∧ s.back u = s.turn u) := by
  have sy := fun {i j} => @(conn_eqv F).symm i j
  constructor
  · intro hc
    by_cases h1 : s.fr v = (u : Nat)
    · exact Or.inl ⟨h1, Classical.byContradiction fun q => hc (hang_no h hv hF h1 q)⟩
    by_cases h2 : s.fr u = (v : Nat)
    · exact Or.inr ⟨h2, Classical.byContradiction fun q => hc (sy (hang_no h hu hF.symm h2 q))⟩
    exfalso
    by_cases h3 : s.N v u
    · refine hc (sy (hang_off h hu hF.symm he (fun h4 => ?_) h2))
      have t1 := (h.fin v hv).later u h3 hF.ne
      have t2 := (h.fin u hu).later v h4 hF.ne.symm
      omega
    · exact hc (hang_off h hv hF he.symm h3 h1)
  · rintro (⟨h1, h2⟩ | ⟨h1, h2⟩)
    · exact hang_yes h hv hF h1 h2
    · exact fun q => hang_yes h hu hF.symm h1 h2 (sy q)

/-- Bridges by what the walk found. -/
theorem bridge_iff (h : Deep E s) (hn : E.Nodup) (hlt : ∀ e ∈ E, e.1 < e.2) {e : Nat × Nat} (he : e ∈ E) (hu : 0 < s.turn e.1) (hv : 0 < s.turn e.2) :
    Bridge E e ↔ (s.fr e.2 = (e.1 : Nat) ∧ s.back e.2 = s.turn e.2) ∨ (s.fr e.1 = (e.2 : Nat) ∧ s.back e.1 = s.turn e.1) := by
  have hl := hlt e he
  refine hang_iff h hu hv ⟨by omega, fun x y q1 q2 q3 => ?_, fun x y q => ?_⟩ (Or.inl he)
  · rcases q1 with q | q
    · exact conn_edge ((hn.mem_erase_iff).2 ⟨fun e' => q2 ⟨by rw [← e'], by rw [← e']⟩, q⟩)
    · exact (conn_eqv _).symm (conn_edge ((hn.mem_erase_iff).2 ⟨fun e' => q3 ⟨by rw [← e'], by rw [← e']⟩, q⟩))
  · rw [hn.mem_erase_iff] at q
    refine ⟨Or.inl q.2, fun e' => q.1 (Prod.ext e'.1 e'.2), fun e' => ?_⟩
    have := hlt _ q.2
    simp only at this
    omega

/-- Who is not joined to a node is not parted by it. -/
theorem not_touch (h : ¬ Conn E x a) (hc : Conn E x y) : Conn (without E a) x y := by
  have := hc (fun i j => (Conn E i a ∧ Conn E j a) ∨ (¬ Conn E i a ∧ ¬ Conn E j a ∧ Conn (without E a) i j)) ⟨⟨fun i => ?_, ?_, ?_⟩, fun e he => ?_⟩
  · rcases this with q | q
    · exact absurd q.1 h
    · exact q.2.2
  · by_cases q : Conn E i a
    · exact Or.inl ⟨q, q⟩
    · exact Or.inr ⟨q, q, (conn_eqv _).refl i⟩
  · rintro i j (q | q)
    · exact Or.inl ⟨q.2, q.1⟩
    · exact Or.inr ⟨q.2.1, q.1, (conn_eqv _).symm q.2.2⟩
  · rintro i j k (q | q) (r | r)
    · exact Or.inl ⟨q.1, r.2⟩
    · exact absurd q.2 r.1
    · exact absurd r.1 q.2.1
    · exact Or.inr ⟨q.1, r.2.1, (conn_eqv _).trans q.2.2 r.2.2⟩
  · have e1 : Conn E e.1 e.2 := conn_edge he
    by_cases q : Conn E e.1 a
    · exact Or.inl ⟨q, (conn_eqv E).trans ((conn_eqv E).symm e1) q⟩
    · have q2 : ¬ Conn E e.2 a := fun r => q ((conn_eqv E).trans e1 r)
      exact Or.inr ⟨q, q2, conn_edge (mem_without.2 ⟨he, fun r => q (r ▸ (conn_eqv E).refl _), fun r => q2 (r ▸ (conn_eqv E).refl _)⟩)⟩

theorem without_to (h : Adj E x y) (hx : x ≠ a) (hy : y ≠ a) : Conn (without E a) x y := by
  rcases h with h | h
  · exact conn_edge (mem_without.2 ⟨h, hx, hy⟩)
  · exact (conn_eqv _).symm (conn_edge (mem_without.2 ⟨h, hy, hx⟩))

section

/-- Of a node that the walk came to from a: a is not behind it. -/
theorem kid (h : Deep E s) (ha : 0 < s.turn a) (hN : s.N a c) (hf : s.fr c = (a : Nat)) : 0 < s.turn c ∧ c ≠ a ∧ ¬ s.N c a ∧ s.K c = a :: s.K a ∧ Adj E c a ∧ s.turn a < s.turn c := by
  have hc := (h.fin a ha).vis c hN
  obtain ⟨g1, g2, g3, g4⟩ := h.from hc hf
  exact ⟨hc, fun e => by subst e; omega, h.not_in hc g4, g2, g1, g4⟩

theorem kid_conn (h : Deep E s) (ha : 0 < s.turn a) (hN : s.N a c) (hf : s.fr c = (a : Nat)) (hx : s.N c x) : Conn (without E a) x c := by
  obtain ⟨hc, q1, q2, -⟩ := kid h ha hN hf
  exact ((h.fin c hc).conn x hx).conn fun i j e hi hj => without_to e (fun q => q2 (q ▸ hi)) (fun q => q2 (q ▸ hj))

theorem way_without (h : Deep E s) (ha : 0 < s.turn a) (hy : y ∈ s.K a) (hf : s.fr a = (k : Nat)) : Conn (without E a) y k := by
  obtain ⟨p1, p2, k', p3, p4⟩ := h.way ha hy
  obtain rfl : k' = k := by rw [hf] at p3; omega
  exact p4.conn fun i j e hi hj => by
    have t1 := (h.way ha hi).2.1
    have t2 := (h.way ha hj).2.1
    exact without_to e (fun q => by subst q; omega) (fun q => by subst q; omega)

/-- What hangs on a alone is parted from all else. -/
theorem kid_closed (h : Deep E s) (ha : 0 < s.turn a) (hN : s.N a c) (hf : s.fr c = (a : Nat)) (hb : s.turn a ≤ s.back c) (hx : s.N c x) (hc' : Conn (without E a) x y) : s.N c y := by
  obtain ⟨hc, q1, q2, q3, q4, q5⟩ := kid h ha hN hf
  have no : ∀ x y, Adj E x y → y ≠ a → s.N c x → s.N c y := fun x y e hy hx => Classical.byContradiction fun hn => by
    have h1 := (h.fin c hc).out x y hx e hn
    rw [q3] at h1
    rcases List.mem_cons.1 h1 with r | r
    · exact hy r
    · have h2 := (h.way ha r).2.1
      have h3 := (h.fin c hc).back_lo x y hx e hn (Or.inr fun e2 => hy (by rw [hf] at e2; omega))
      omega
  refine (closed (P := s.N c) hc' fun i j e => ?_).1 hx
  have e1 := mem_without.1 e
  exact ⟨no i j (Or.inl e1.1) e1.2.2, no j i (Or.inr e1.1) e1.2.1⟩

theorem joint_yes (h : Deep E s) (ha : 0 < s.turn a) (hp : 1 < s.pieces a) : Joint E a := by
  obtain ⟨H, hn, hH, hm⟩ := (h.fin a ha).count
  rcases (h.vis a ha).way with ⟨h1, h2⟩ | ⟨k, h1, h2, h3, h4, h5⟩
  · rw [if_pos h2] at hH
    obtain ⟨c1, c2, hc1, hc2, hne⟩ : ∃ c1 c2, c1 ∈ H ∧ c2 ∈ H ∧ c2 ≠ c1 := by
      match H, hn, hH with
      | [], _, hH => simp at hH; omega
      | [_], _, hH => simp at hH; omega
      | c1 :: c2 :: l, hn, _ =>
        refine ⟨c1, c2, by simp, by simp, fun e => ?_⟩
        subst e
        simp at hn
    obtain ⟨m1, m2, m3⟩ := (hm c1).1 hc1
    obtain ⟨r1, r2, r3⟩ := (hm c2).1 hc2
    obtain ⟨hc, q1, q2, q3, q4, q5⟩ := kid h ha m1 m2
    obtain ⟨-, t1, -, -, t4, -⟩ := kid h ha r1 r2
    refine ⟨c1, c2, q1, t1, (conn_eqv E).trans q4.conn t4.symm.conn, fun hc' => ?_⟩
    obtain ⟨k, u1, u2⟩ := (h.fin c1 hc).up c2 (kid_closed h ha m1 m2 m3 (h.fin c1 hc).self hc') hne
    obtain rfl : k = a := by rw [r2] at u1; omega
    exact q2 u2
  · rw [if_neg (by rw [h1]; omega)] at hH
    match H, hH with
    | [], hH => simp at hH; omega
    | c1 :: l, _ =>
    obtain ⟨m1, m2, m3⟩ := (hm c1).1 List.mem_cons_self
    obtain ⟨hc, q1, q2, q3, q4, q5⟩ := kid h ha m1 m2
    refine ⟨c1, k, q1, fun e => by subst e; omega, (conn_eqv E).trans q4.conn h2.conn, fun hc' => ?_⟩
    exact h.not_in hc (by omega) (kid_closed h ha m1 m2 m3 (h.fin c1 hc).self hc')

theorem joint_no (h : Deep E s) (ha : 0 < s.turn a) (hp : s.pieces a ≤ 1) : ¬ Joint E a := by
  rintro ⟨x, y, hx, hy, hc, hnc⟩
  obtain ⟨H, hn, hH, hm⟩ := (h.fin a ha).count
  have tr := fun {i j k} => @(conn_eqv (without E a)).trans i j k
  have sy := fun {i j} => @(conn_eqv (without E a)).symm i j
  by_cases hxa : Conn E x a
  case neg => exact hnc (not_touch hxa hc)
  have hya : Conn E y a := (conn_eqv E).trans ((conn_eqv E).symm hc) hxa
  have cn : ∀ z, s.N a z → z ≠ a → ∃ c, s.fr c = (a : Nat) ∧ s.N a c ∧ s.N c z := (h.fin a ha).child
  rcases (h.vis a ha).way with ⟨h1, h2⟩ | ⟨k, h1, h2, h3, h4, h5⟩
  · rw [if_pos h2] at hH
    have all : ∀ z, Conn E z a → s.N a z := fun z hz => (closed (P := s.N a) hz fun i j e => by
      have no : ∀ i j, Adj E i j → s.N a i → s.N a j := fun i j e hi => Classical.byContradiction fun q => by
        have := (h.fin a ha).out i j hi e q
        rw [h1] at this
        cases this
      exact ⟨no i j (Or.inl e), no j i (Or.inr e)⟩).2 (h.fin a ha).self
    have hang : ∀ c, s.N a c → s.fr c = (a : Nat) → c ∈ H := fun c q1 q2 => (hm c).2 ⟨q1, q2, by
      obtain ⟨hc, r1, r2, r3, r4, r5⟩ := kid h ha q1 q2
      rcases (h.fin c hc).back_is with t | ⟨i, j, t1, t2, t3, t4, t5⟩
      · omega
      · have := (h.fin c hc).out i j t1 t2 t3
        rw [r3, h1] at this
        have : j = a := by simpa using this
        subst this
        omega⟩
    obtain ⟨c1, p1, p2, p3⟩ := cn x (all x hxa) hx
    obtain ⟨c2, r1, r2, r3⟩ := cn y (all y hya) hy
    have e1 := hang c1 p2 p1
    have e2 := hang c2 r2 r1
    match H, e1, e2, hH with
    | [_], e1, e2, _ =>
      obtain rfl : c1 = c2 := by simp at e1 e2; rw [e1, e2]
      exact hnc (tr (kid_conn h ha p2 p1 p3) (sy (kid_conn h ha r2 r1 r3)))
    | _ :: _ :: _, _, _, hH => simp at hH; omega
  · rw [if_neg (by rw [h1]; omega)] at hH
    have hnil : H = [] := List.eq_nil_of_length_eq_zero (by omega)
    have key : ∀ z, z ≠ a → s.N a z → Conn (without E a) z k := fun z hz hN => by
      obtain ⟨c, p1, p2, p3⟩ := cn z hN hz
      obtain ⟨hc, r1, r2, r3, r4, r5⟩ := kid h ha p2 p1
      have hlt : s.back c < s.turn a := by
        apply Classical.byContradiction
        intro q
        have := (hm c).2 ⟨p2, p1, by omega⟩
        rw [hnil] at this
        cases this
      rcases (h.fin c hc).back_is with t | ⟨i, j, t1, t2, t3, t4, t5⟩
      · omega
      have hj := (h.fin c hc).out i j t1 t2 t3
      rw [r3] at hj
      have hja : j ≠ a := fun e => by subst e; omega
      rcases List.mem_cons.1 hj with e | hj
      · exact absurd e hja
      exact tr (kid_conn h ha p2 p1 p3) (tr (sy (kid_conn h ha p2 p1 t1)) (tr (without_to t2 (fun e => r2 (e ▸ t1)) hja) (way_without h ha hj h1)))
    have all : ∀ z, Conn E z a → s.N a z ∨ Conn (without E a) z k := fun z hz => (closed (P := fun z => s.N a z ∨ Conn (without E a) z k) hz fun i j e => by
      have no : ∀ i j, Adj E i j → (s.N a i ∨ Conn (without E a) i k) → (s.N a j ∨ Conn (without E a) j k) := fun i j e hi => by
        by_cases hj : s.N a j
        · exact Or.inl hj
        have hja : j ≠ a := fun q => hj (q ▸ (h.fin a ha).self)
        by_cases hi' : s.N a i
        · exact Or.inr (way_without h ha ((h.fin a ha).out i j hi' e hj) h1)
        · rcases hi with hi | hi
          · exact absurd hi hi'
          · exact Or.inr (tr (sy (without_to e (fun q => hi' (q ▸ (h.fin a ha).self)) hja)) hi)
      exact ⟨no i j (Or.inl e), no j i (Or.inr e)⟩).2 (Or.inl (h.fin a ha).self)
    have to : ∀ z, z ≠ a → Conn E z a → Conn (without E a) z k := fun z hz hc => (all z hc).elim (key z hz) id
    exact hnc (tr (to x hx hxa) (sy (to y hy hya)))

end

end Go.Proofs.YtinflbkmemjgbabDoor.Br
