/-
  Tree Zd
-/
import Derived.Deep.Trees
import Derived.WalkKit
import Derived.Deep.RegionHeld3
import Derived.Test.YtcfemppdeidjmacGreatChecked
namespace Go.Proofs.YtcfemppdeidjmacGreat
open Go.Deep

def sz : BT Int → Nat
  | .nil => 0
  | .node _ _ _ l r => sz l + 1 + sz r

def dp : BT Int → Nat
  | .nil => 0
  | .node _ _ _ l r => max (dp l) (dp r) + 1

def items : BT Int → List Int
  | .nil => []
  | .node _ _ a l r => items l ++ a :: items r

def Bal : BT Int → Prop
  | .nil => True
  | .node _ _ _ l r => Bal l ∧ Bal r ∧ dp l ≤ dp r + 1 ∧ dp r ≤ dp l + 1

theorem items_len : ∀ T : BT Int, (items T).length = sz T
  | .nil => rfl
  | .node _ _ _ l r => by simp only [items, sz, List.length_append, List.length_cons, items_len l, items_len r]; omega

theorem dp_le_sz : ∀ T : BT Int, dp T ≤ sz T
  | .nil => Nat.le_refl _
  | .node _ _ _ l r => by have := dp_le_sz l; have := dp_le_sz r; simp only [dp, sz]; omega

theorem sz_of_items {T : BT Int} {xs : List Int} (h : items T = xs) : sz T = xs.length := by rw [← items_len, h]

structure Evened (l : BT Int) (a : Int) (r T : BT Int) : Prop where
  bal : Bal T
  items : items T = items l ++ a :: items r
  one : dp l ≤ dp r + 1 → dp r ≤ dp l + 1 → dp T = max (dp l) (dp r) + 1
  lo : max (dp l) (dp r) ≤ dp T
  hi : dp T ≤ max (dp l) (dp r) + 1

structure Linked (l : BT Int) (a : Int) (r T : BT Int) : Prop where
  bal : Bal T
  items : items T = items l ++ a :: items r
  lo : max (dp l) (dp r) ≤ dp T
  hi : dp T ≤ max (dp l) (dp r) + 1

theorem Linked.sz {l r T : BT Int} {a : Int} (h : Linked l a r T) : sz T = sz l + 1 + sz r := by
  rw [sz_of_items h.items]; simp only [List.length_append, List.length_cons, items_len]; omega

theorem evened_grow {l r : BT Int} {a : Int} {b o : Nat} (hl : Bal l) (hr : Bal r) (h1 : dp l ≤ dp r + 1) (h2 : dp r ≤ dp l + 1) : Evened l a r (.node b o a l r) :=
  ⟨⟨hl, hr, h1, h2⟩, rfl, fun _ _ => rfl, by simp only [dp]; omega, by simp only [dp]; omega⟩

theorem evened_right1 {ll lr r : BT Int} {la a : Int} {b o b1 o1 b2 o2 : Nat} (hl : Bal (.node b o la ll lr)) (hr : Bal r) (hd : dp (.node b o la ll lr) = dp r + 2) (hge : dp lr ≤ dp ll) :
    Evened (.node b o la ll lr) a r (.node b1 o1 la ll (.node b2 o2 a lr r)) := by
  obtain ⟨bl, br, c1, c2⟩ := hl
  simp only [dp] at hd
  refine ⟨⟨bl, ⟨br, hr, by omega, by omega⟩, by simp only [dp]; omega, by simp only [dp]; omega⟩, by simp [items], ?_, ?_, ?_⟩
  all_goals simp only [dp]; omega

theorem evened_right2 {ll il ir r : BT Int} {la ia a : Int} {b o c p b1 o1 b2 o2 b3 o3 : Nat} (hl : Bal (.node b o la ll (.node c p ia il ir))) (hr : Bal r) (hd : dp (.node b o la ll (.node c p ia il ir)) = dp r + 2) (hlt : dp ll < dp (.node c p ia il ir)) :
    Evened (.node b o la ll (.node c p ia il ir)) a r (.node b1 o1 ia (.node b2 o2 la ll il) (.node b3 o3 a ir r)) := by
  obtain ⟨bl, ⟨bil, bir, d1, d2⟩, c1, c2⟩ := hl
  simp only [dp] at hd hlt c1 c2
  refine ⟨⟨⟨bl, bil, by omega, by omega⟩, ⟨bir, hr, by omega, by omega⟩, by simp only [dp]; omega, by simp only [dp]; omega⟩, by simp [items], ?_, ?_, ?_⟩
  all_goals simp only [dp]; omega

theorem evened_left1 {l rl rr : BT Int} {ra a : Int} {b o b1 o1 b2 o2 : Nat} (hl : Bal l) (hr : Bal (.node b o ra rl rr)) (hd : dp (.node b o ra rl rr) = dp l + 2) (hge : dp rl ≤ dp rr) :
    Evened l a (.node b o ra rl rr) (.node b1 o1 ra (.node b2 o2 a l rl) rr) := by
  obtain ⟨bl, br, c1, c2⟩ := hr
  simp only [dp] at hd
  refine ⟨⟨⟨hl, bl, by omega, by omega⟩, br, by simp only [dp]; omega, by simp only [dp]; omega⟩, by simp [items], ?_, ?_, ?_⟩
  all_goals simp only [dp]; omega

theorem evened_left2 {l il ir rr : BT Int} {ra ia a : Int} {b o c p b1 o1 b2 o2 b3 o3 : Nat} (hl : Bal l) (hr : Bal (.node b o ra (.node c p ia il ir) rr)) (hd : dp (.node b o ra (.node c p ia il ir) rr) = dp l + 2) (hlt : dp rr < dp (.node c p ia il ir)) :
    Evened l a (.node b o ra (.node c p ia il ir) rr) (.node b1 o1 ia (.node b2 o2 a l il) (.node b3 o3 ra ir rr)) := by
  obtain ⟨⟨bil, bir, d1, d2⟩, brr, c1, c2⟩ := hr
  simp only [dp] at hd hlt c1 c2
  refine ⟨⟨⟨hl, bil, by omega, by omega⟩, ⟨bir, brr, by omega, by omega⟩, by simp only [dp]; omega, by simp only [dp]; omega⟩, by simp [items], ?_, ?_, ?_⟩
  all_goals simp only [dp]; omega

theorem linked_of_evened {l r T : BT Int} {a : Int} (h : Evened l a r T) : Linked l a r T := ⟨h.bal, h.items, h.lo, h.hi⟩

theorem linked_left {ll lr r T1 T : BT Int} {la a : Int} {b o : Nat} (hb : Bal (.node b o la ll lr)) (hd : dp r + 1 < dp (.node b o la ll lr)) (h1 : Linked lr a r T1) (h : Evened ll la T1 T) : Linked (.node b o la ll lr) a r T := by
  obtain ⟨_, _, c1, c2⟩ := hb
  have e1 := h1.lo
  have e2 := h1.hi
  have e3 := h.lo
  have e4 := h.hi
  have e5 := h.one
  simp only [dp] at hd
  refine ⟨h.bal, by rw [h.items, h1.items]; simp [items], ?_, ?_⟩
  · simp only [dp]
    by_cases c : dp ll ≤ dp T1 + 1 ∧ dp T1 ≤ dp ll + 1
    · have := e5 c.1 c.2; omega
    · omega
  · simp only [dp]
    by_cases c : dp ll ≤ dp T1 + 1 ∧ dp T1 ≤ dp ll + 1
    · have := e5 c.1 c.2; omega
    · omega

theorem linked_left_near {ll lr r T1 : BT Int} {la a : Int} {b o : Nat} (hb : Bal (.node b o la ll lr)) (hd : dp r + 1 < dp (.node b o la ll lr)) (h1 : Linked lr a r T1) : dp ll ≤ dp T1 + 2 ∧ dp T1 ≤ dp ll + 2 := by
  obtain ⟨_, _, c1, c2⟩ := hb
  have e1 := h1.lo
  have e2 := h1.hi
  simp only [dp] at hd
  omega

theorem linked_right {l rl rr T1 T : BT Int} {ra a : Int} {b o : Nat} (hb : Bal (.node b o ra rl rr)) (hd : dp l + 1 < dp (.node b o ra rl rr)) (h1 : Linked l a rl T1) (h : Evened T1 ra rr T) : Linked l a (.node b o ra rl rr) T := by
  obtain ⟨_, _, c1, c2⟩ := hb
  have e1 := h1.lo
  have e2 := h1.hi
  have e3 := h.lo
  have e4 := h.hi
  have e5 := h.one
  simp only [dp] at hd
  refine ⟨h.bal, by rw [h.items, h1.items]; simp [items], ?_, ?_⟩
  · simp only [dp]
    by_cases c : dp T1 ≤ dp rr + 1 ∧ dp rr ≤ dp T1 + 1
    · have := e5 c.1 c.2; omega
    · omega
  · simp only [dp]
    by_cases c : dp T1 ≤ dp rr + 1 ∧ dp rr ≤ dp T1 + 1
    · have := e5 c.1 c.2; omega
    · omega

theorem linked_right_near {l rl rr T1 : BT Int} {ra a : Int} {b o : Nat} (hb : Bal (.node b o ra rl rr)) (hd : dp l + 1 < dp (.node b o ra rl rr)) (h1 : Linked l a rl T1) : dp T1 ≤ dp rr + 2 ∧ dp rr ≤ dp T1 + 2 := by
  obtain ⟨_, _, c1, c2⟩ := hb
  have e1 := h1.lo
  have e2 := h1.hi
  simp only [dp] at hd
  omega

def bits : Nat → Nat → Nat
  | 0, _ => 0
  | k + 1, n => if n = 0 then 0 else bits k (n / 2) + 1

theorem bits_mono : ∀ (k a b : Nat), a ≤ b → bits k a ≤ bits k b
  | 0, _, _, _ => Nat.le_refl _
  | k + 1, a, b, h => by
    have := bits_mono k (a / 2) (b / 2) (by omega)
    simp only [bits]
    split <;> split <;> omega

theorem bits_fuel : ∀ (k n : Nat), n ≤ k → ∀ m, n ≤ m → bits k n = bits m n
  | 0, n, h, m, _ => by
    have : n = 0 := by omega
    subst this
    cases m <;> simp [bits]
  | k + 1, n, h, m, hm => by
    cases m with
    | zero => have : n = 0 := by omega
              subst this; simp [bits]
    | succ m =>
      simp only [bits]
      split
      · rfl
      · rw [bits_fuel k (n / 2) (by omega) m (by omega)]

def bitsOf (n : Nat) : Nat := bits n n

theorem bitsOf_pos {n : Nat} (h : 0 < n) : bitsOf n = bitsOf (n / 2) + 1 := by
  unfold bitsOf
  cases n with
  | zero => omega
  | succ k =>
    rw [bits, if_neg (by omega), bits_fuel k ((k + 1) / 2) (by omega) ((k + 1) / 2) (Nat.le_refl _)]

theorem bitsOf_mono {a b : Nat} (h : a ≤ b) : bitsOf a ≤ bitsOf b := by
  unfold bitsOf
  rw [bits_fuel a a (Nat.le_refl _) b h]
  exact bits_mono b a b h

theorem bitsOf_step (n : Nat) : bitsOf (n + 1) ≤ bitsOf n + 1 := by
  induction n using Nat.strongRecOn with
  | _ n ih =>
    by_cases h : n = 0
    · subst h; decide
    · rw [bitsOf_pos (n := n + 1) (by omega), bitsOf_pos (n := n) (by omega)]
      by_cases e : (n + 1) / 2 = n / 2
      · rw [e]; omega
      · have : (n + 1) / 2 = n / 2 + 1 := by omega
        rw [this]
        have := ih (n / 2) (by omega)
        omega

structure Spread (xs : List Int) (T : BT Int) : Prop where
  bal : Bal T
  items : items T = xs
  dp : dp T = bitsOf xs.length

theorem spread_nil : Spread [] .nil := ⟨trivial, rfl, rfl⟩

theorem spread_node {xs ys : List Int} {a : Int} {l r : BT Int} {b o : Nat} (hl : Spread xs l) (hr : Spread ys r) (h1 : ys.length ≤ xs.length) (h2 : xs.length ≤ ys.length + 1) :
    Spread (xs ++ a :: ys) (.node b o a l r) ∧ Go.Proofs.YtcfemppdeidjmacGreat.dp l ≤ Go.Proofs.YtcfemppdeidjmacGreat.dp r + 1 ∧ Go.Proofs.YtcfemppdeidjmacGreat.dp r ≤ Go.Proofs.YtcfemppdeidjmacGreat.dp l + 1 := by
  have m1 := bitsOf_mono h1
  have m2 := bitsOf_mono h2
  have m3 := bitsOf_step ys.length
  have e1 := hl.dp
  have e2 := hr.dp
  have near : Go.Proofs.YtcfemppdeidjmacGreat.dp l ≤ Go.Proofs.YtcfemppdeidjmacGreat.dp r + 1 ∧ Go.Proofs.YtcfemppdeidjmacGreat.dp r ≤ Go.Proofs.YtcfemppdeidjmacGreat.dp l + 1 := by omega
  refine ⟨⟨⟨hl.bal, hr.bal, near.1, near.2⟩, by simp [Go.Proofs.YtcfemppdeidjmacGreat.items, hl.items, hr.items], ?_⟩, near⟩
  have hn : (xs ++ a :: ys).length / 2 = xs.length := by simp only [List.length_append, List.length_cons]; omega
  rw [bitsOf_pos (by simp only [List.length_append, List.length_cons]; omega), hn]
  simp only [Go.Proofs.YtcfemppdeidjmacGreat.dp]
  omega

end Go.Proofs.YtcfemppdeidjmacGreat

namespace Go.Proofs.YtcfemppdeidjmacGreat
open Go.RowKit Go.Deep

structure Zed where
  ok : Nat → Prop
  n : Nat

abbrev inst (Z : Zed) : Inhabited Zed := ⟨Z⟩
def every : Zed := ⟨fun _ => True, 0⟩

variable [Inhabited Zed]

def zin (b : Nat) : Prop := (default : Zed).ok b ∨ (default : Zed).n ≤ b
def Zok (w : World) : Prop := (default : Zed).n ≤ w.heap.size

theorem Zok.turn {w w' : World} (h : Zok w) (hs : w.heap.size ≤ w'.heap.size) : Zok w' := Nat.le_trans h hs
theorem Zok.below {w w' : World} (h : Zok w) (hb : Below w.heap.size w w') : Zok w' := h.turn hb.size
theorem Zok.drew {w : World} (h : Zok w) : Zok w.drew := h
theorem zok0 [i : Inhabited (PLift ((default : Zed).n ≤ 0))] {w : World} : Zok w := Nat.le_trans i.default.down (Nat.zero_le _)
theorem Zok.new {w : World} (h : Zok w) : zin w.heap.size := Or.inr h

end Go.Proofs.YtcfemppdeidjmacGreat
