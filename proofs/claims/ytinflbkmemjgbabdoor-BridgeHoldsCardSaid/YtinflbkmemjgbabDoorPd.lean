/-
  The statements' own answer: the first of the shortest ways.
-/
import Derived.Test.YtinflbkmemjgbabDoorPc
import Derived.Test.YtinflbkmemjgbabDoorBg
namespace Go.Proofs.YtinflbkmemjgbabDoor.Pt
open Go.RowKit Go.Deep Go.Proofs.YtinflbkmemjgbabDoor.Br
open Go.RowKit (Below)
set_option linter.unusedVariables false

variable {w w' : World} {E : List (Nat × Nat)}

theorem next_isOf {a c : Nat} (hl : ∀ e ∈ E, e.1 < e.2) : Next E a c ↔ ∃ e ∈ E, IsOf e (a : Nat) (c : Nat) := by
  constructor
  · rintro (h | h)
    · have := hl _ h
      have h1 : a < c := this
      exact ⟨_, h, ⟨by show (a : Int) = _; omega, by show (c : Int) = _; omega⟩⟩
    · have := hl _ h
      have h1 : c < a := this
      exact ⟨_, h, ⟨by show (c : Int) = _; omega, by show (a : Int) = _; omega⟩⟩
  · rintro ⟨⟨x, y⟩, h, h1, h2⟩
    have h3 := hl _ h
    simp only at h1 h2 h3
    rcases Nat.lt_or_ge a c with q | q
    · have e1 : x = a := by omega
      have e2 : y = c := by omega
      subst e1 e2
      exact Or.inl h
    · have e1 : x = c := by omega
      have e2 : y = a := by omega
      subst e1 e2
      exact Or.inr h

/-- Place, by whether there is such an edge. -/
theorem place_yes {a : Option Addr} {m c x y : Nat} (hE : EdgesAt w a E) (hm : E.length = m) (hm2 : m < 1000000) (hl : ∀ e ∈ E, e.1 < e.2) (h : Next E x y) :
    Calls Tryd.prog 28 #[.slice a m c, .int .i64 (x : Nat), .int .i64 (y : Nat)] w fun e w' => (∃ j : Nat, e = .returned (.int .i64 (j : Nat))) ∧ Below w.heap.size w w' := by
  refine (place_ref hE hm hm2 x y).mono ?_
  rintro e w1 ⟨r, rfl, hb, ⟨j, _, rfl, _⟩ | ⟨rfl, hno⟩⟩
  · exact ⟨⟨j, rfl⟩, hb⟩
  · obtain ⟨e, he, hi⟩ := (next_isOf hl).1 h
    exact absurd hi (hno e he)

theorem place_not {a : Option Addr} {m c x y : Nat} (hE : EdgesAt w a E) (hm : E.length = m) (hm2 : m < 1000000) (hl : ∀ e ∈ E, e.1 < e.2) (h : ¬ Next E x y) :
    Calls Tryd.prog 28 #[.slice a m c, .int .i64 (x : Nat), .int .i64 (y : Nat)] w fun e w' => e = .returned (.int .i64 (-1)) ∧ Below w.heap.size w w' := by
  refine (place_ref hE hm hm2 x y).mono ?_
  rintro e w1 ⟨r, rfl, hb, ⟨j, hj, rfl, hi⟩ | ⟨rfl, hno⟩⟩
  · refine absurd ((next_isOf hl).2 ⟨_, ?_, hi⟩) h
    rw [List.getD_eq_getElem?_getD, List.getElem?_eq_getElem (by omega)]
    exact List.getElem_mem _
  · exact ⟨rfl, hb⟩

/-- The least node from a place on that will do; -1: none. -/
def Best (P : Nat → Prop) (n cc : Nat) (x : Int) : Prop :=
  (∃ c' : Nat, cc ≤ c' ∧ c' < n ∧ P c' ∧ (∀ c'', cc ≤ c'' → c'' < n → P c'' → c' ≤ c'') ∧ x = c') ∨ ((∀ c', cc ≤ c' → c' < n → ¬ P c') ∧ x = -1)

theorem Best.start (P : Nat → Prop) (n : Nat) : Best P n n (-1) := Or.inr ⟨fun c' h1 h2 => by omega, rfl⟩

theorem Best.yes {P : Nat → Prop} {n cc : Nat} {x : Int} (h : Best P n (cc + 1) x) (hc : cc < n) (hp : P cc) : Best P n cc (cc : Nat) := Or.inl ⟨cc, Nat.le_refl _, hc, hp, fun c'' h1 _ _ => h1, rfl⟩

theorem Best.no {P : Nat → Prop} {n cc : Nat} {x : Int} (h : Best P n (cc + 1) x) (hp : ¬ P cc) : Best P n cc x := by
  have key : ∀ c'', cc ≤ c'' → P c'' → cc + 1 ≤ c'' := fun c'' h1 h2 => by
    rcases Nat.lt_or_ge cc c'' with q | q
    · exact q
    · obtain rfl : c'' = cc := by omega
      exact absurd h2 hp
  rcases h with ⟨c', h1, h2, h3, h4, h5⟩ | ⟨h1, h2⟩
  · exact Or.inl ⟨c', by omega, h2, h3, fun c'' q1 q2 q3 => h4 c'' (key c'' q1 q3) q2 q3, h5⟩
  · exact Or.inr ⟨fun c' q1 q2 q3 => h1 c' (key c' q1 q3) q2 q3, h2⟩

/-- A number read off the world. -/
def numAt (w : World) (k : Nat) (v : Value) : Nat := match w.cell? ⟨k, (intOf v).toNat, none⟩ with | some (.int _ x) => x.toNat | _ => 0

theorem numAt_is {k i : Nat} {x : Int} (h : w.cell? ⟨k, i, none⟩ = some (.int .i64 x)) : numAt w k (.int .i64 (i : Nat)) = x.toNat := by
  unfold numAt
  simp only [intOf, Int.toNat_natCast, h]

set_option maxRecDepth 100000 in
set_option maxHeartbeats 2000000 in
theorem short_no {ad : Option Addr} {m c n a b : Nat} (hE : EdgesAt w ad E) (hm : E.length = m) (hm2 : m ≤ 200) (hn : 0 < n) (hn2 : n ≤ 60) (ha : Among n E) (hl : ∀ e ∈ E, e.1 < e.2) (haa : a < n) (hb : b < n) (hno : ∀ k, ¬ Walk E b a k) :
    Calls Tryd.prog 35 #[.int .i64 (n : Nat), .slice ad m c, .int .i64 (a : Nat), .int .i64 (b : Nat)] w fun e w' => e = .returned (.tuple #[.slice none 0 0, .bool false]) ∧ Below w.heap.size w w' := by
  have hf := far_of (c := c) hE hm hm2 hn hn2 ha (fun e he => Nat.ne_of_lt (hl e he)) hb
  have HNo : Hid (∀ k, ¬ Walk E b a k) := hno
  clear hE hm ha hl hno
  go_enter Tryd.func35, Tryd.ntmps35
  go_wp2_with fail
  refine hf.mono ?_
  rintro e w1 ⟨k1, cap1, d, rfl, hb1, hk1, hc1, hd⟩
  have c1 := hc1 a haa
  have hda : d a = -1 := by
    rcases hd a with ⟨k, h1, _⟩ | ⟨_, h2⟩
    · exact absurd h1.1 (HNo.out k)
    · exact h2
  rw [hda] at c1
  have HB1 : Hid (Below w.heap.size w w1) := hb1
  have i0 : (0 : Int) ≤ (a : Int) := by omega
  have i1 : (a : Int) < (n : Int) := by omega
  clear hf hb1 hc1 hd hda hk1
  go_wp2_with fail
  go_ret2
  exact ⟨rfl, HB1.out⟩

end Go.Proofs.YtinflbkmemjgbabDoor.Pt
