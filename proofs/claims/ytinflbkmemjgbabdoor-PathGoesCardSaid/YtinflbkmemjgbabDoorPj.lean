/-
  For PathGoes and BridgeHolds: an error that is not the one told; what a shortest way is: its nodes, one behind the other, each nearer by one.
-/
import Derived.Test.YtinflbkmemjgbabDoorTold
import Derived.Test.YtinflbkmemjgbabDoorPb
namespace Go.Proofs.YtinflbkmemjgbabDoor.Pt
open Go.RowKit Go.Proofs.YtinflbkmemjgbabDoor.Br
open Go.RowKit (Below)
set_option linter.unusedVariables false

variable {w w' : World} {E : List (Nat × Nat)} {a b c i j k n m : Nat}

set_option maxHeartbeats 1000000 in
/-- Another error than the one told. -/
theorem error_not {x n : Int} (h : x ≠ n) (hg : ErrType w) : Calls Tryd.prog 11 #[.iface 23 (.int .i64 x), .int .i64 n] w fun e w' => e = .returned (.bool false) ∧ Below w.heap.size w w' := by
  have t1 : (x == n) = false := by rw [beq_eq_false_iff_ne]; exact h
  clear h
  go_enter Tryd.func11, Tryd.ntmps11
  go_wp2_with fail
  refine (told_errno x _ hg).mono ?_
  rintro e w' ⟨rfl, hb⟩
  go_wp2_with fail
  go_ret
  exact ⟨rfl, hb⟩

set_option maxHeartbeats 1000000 in
/-- No error, where one is told. -/
theorem error_nil {n : Int} (h : n ≠ 0) : Calls Tryd.prog 11 #[.nilIface, .int .i64 n] w fun e w' => e = .returned (.bool false) ∧ Below w.heap.size w w' := by
  have t1 : ((0 : Int) == n) = false := by rw [beq_eq_false_iff_ne]; exact fun q => h q.symm
  clear h
  go_enter Tryd.func11, Tryd.ntmps11
  go_wp2_with fail
  refine (told_nil _).mono ?_
  rintro e w' ⟨rfl, rfl⟩
  go_wp2_with fail
  go_ret
  exact ⟨rfl, Below.refl _ _⟩

/-- Each node of a shortest way is nearer by one. -/
theorem Way.dist : ∀ {k a : Nat} {l : List Nat}, Way E b a k l → Dist E b a k → ∀ i, i ≤ k → Dist E b (l.getD i 0) (k - i)
  | 0, a, l, h, hd, i, hi => by
    obtain ⟨rfl, rfl⟩ := h.zero
    obtain rfl : i = 0 := by omega
    exact hd
  | k + 1, a, l, h, hd, i, hi => by
    obtain ⟨c, r, h1, h2, h3, h4, rfl⟩ := h.parts
    cases i with
    | zero => exact hd
    | succ i =>
      have := h4.dist h2 i (by omega)
      rw [List.getD_cons_succ, show k + 1 - (i + 1) = k - i by omega]
      exact this

/-- .. and by an edge from the one ahead of it. -/
theorem Way.next : ∀ {k a : Nat} {l : List Nat}, Way E b a k l → ∀ i, i < k → Next E (l.getD i 0) (l.getD (i + 1) 0)
  | 0, a, l, h, i, hi => absurd hi (Nat.not_lt_zero _)
  | k + 1, a, l, h, i, hi => by
    obtain ⟨c, r, h1, h2, h3, h4, rfl⟩ := h.parts
    cases i with
    | zero =>
      obtain ⟨r', rfl⟩ := h4.head
      exact h1
    | succ i =>
      rw [List.getD_cons_succ, List.getD_cons_succ]
      exact h4.next i (by omega)

theorem Way.first {l : List Nat} (h : Way E b a k l) : l.getD 0 0 = a := by
  obtain ⟨r, rfl⟩ := h.head
  rfl

theorem Way.last {l : List Nat} (h : Way E b a k l) (hd : Dist E b a k) : l.getD k 0 = b := by
  have := h.dist hd k (Nat.le_refl _)
  rw [Nat.sub_self] at this
  exact dist_zero this

/-- No node twice. -/
theorem Way.once {l : List Nat} (h : Way E b a k l) (hd : Dist E b a k) (hi : i < j) (hj : j ≤ k) : l.getD i 0 ≠ l.getD j 0 := fun e => by
  have h1 := h.dist hd i (by omega)
  have h2 := h.dist hd j hj
  rw [e] at h1
  have := h1.one h2
  omega

/-- Along an edge it is further, or nearer, by one at most; or both are out of reach. -/
theorem far_edge {u v : Nat} {x y : Int} (hn : Next E u v) (hx : Far E b u x) (hy : Far E b v y) : (x < 0 ↔ y < 0) ∧ x - y ≤ 1 ∧ y - x ≤ 1 := by
  rcases hx with ⟨p, p1, rfl⟩ | ⟨p1, rfl⟩ <;> rcases hy with ⟨q, q1, rfl⟩ | ⟨q1, rfl⟩
  · obtain ⟨j1, d1, l1⟩ := p1.near hn.symm
    obtain ⟨j2, d2, l2⟩ := q1.near hn
    have e1 := d1.one q1
    have e2 := d2.one p1
    omega
  · obtain ⟨j1, d1, _⟩ := p1.near hn.symm
    exact absurd d1.1 (q1 _)
  · obtain ⟨j2, d2, _⟩ := q1.near hn
    exact absurd d2.1 (p1 _)
  · omega

/-- By another node it is no nearer. -/
theorem far_third {p q r : Nat} (h1 : Dist E a c p) (h2 : Dist E a b q) (h3 : Dist E b c r) : p ≤ q + r := by
  have hw : Walk E a c (r + q) := Walk.append h2.1 h3.1
  have := h1.2 _ hw
  omega

end Go.Proofs.YtinflbkmemjgbabDoor.Pt
