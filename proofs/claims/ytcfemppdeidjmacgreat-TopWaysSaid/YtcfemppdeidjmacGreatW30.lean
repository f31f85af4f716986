/-
  Pb
-/
import Derived.Test.YtcfemppdeidjmacGreatW25
namespace Go.Proofs.YtcfemppdeidjmacGreat.Pt
open Go.Proofs.YtcfemppdeidjmacGreat.Br
set_option linter.unusedVariables false

variable {E : List (Nat × Nat)} {a b c i j k n m t u v : Nat} {d : Nat → Int} {x : Int}

def put (d : Nat → Int) (i : Nat) (x : Int) : Nat → Int := fun j => if j = i then x else d j

theorem put_same : put d i x i = x := if_pos rfl
theorem put_other (h : j ≠ i) : put d i x j = d j := if_neg h

def wayN (E : List (Nat × Nat)) (b : Nat) : Nat → Nat → List Nat → Prop
  | 0, a, L => a = b ∧ L = [b]
  | k + 1, a, L => ∃ c l, Next E a c ∧ Dist E b c k ∧ (∀ c', Next E a c' → Dist E b c' k → c ≤ c') ∧ wayN E b k c l ∧ L = a :: l

def Way (E : List (Nat × Nat)) (b a k : Nat) (L : List Nat) : Prop := wayN E b k a L

theorem Way.here : Way E b b 0 [b] := ⟨rfl, rfl⟩
theorem Way.step {l : List Nat} (h1 : Next E a c) (h2 : Dist E b c k) (h3 : ∀ c', Next E a c' → Dist E b c' k → c ≤ c') (h4 : Way E b c k l) : Way E b a (k + 1) (a :: l) := ⟨c, l, h1, h2, h3, h4, rfl⟩
end Go.Proofs.YtcfemppdeidjmacGreat.Pt
