/-
  SeqPlays: the walk of the statement.
-/
import Derived.Test.YtpmkllmeilhakaaDoorPlays2
import Derived.Deep.DeepCutAuto
import Derived.Deep.CutBlock
import Derived.Deep.LoopGhost
namespace Go.Proofs.YtpmkllmeilhakaaDoor
open Go.RowKit Go.Deep

/-- A step of the script, as it lies in memory. -/
structure StepAt (w : World) (b o : Nat) (what x y : Int) (a : Option Addr) (n c : Nat) (xs : List Int) : Prop where
  c0 : w.cell? ⟨b, o, none⟩ = some (.int .i64 what)
  c1 : w.cell? ⟨b, o + 1, none⟩ = some (.int .i64 x)
  c2 : w.cell? ⟨b, o + 2, none⟩ = some (.int .i64 y)
  c3 : w.cell? ⟨b, o + 3, none⟩ = some (.slice a n c)
  ints : IntsAt w a n c xs
  cap : c ≤ maxLen
  rx : -9223372036854775808 ≤ x ∧ x ≤ 9223372036854775807
  ry : -9223372036854775808 ≤ y ∧ y ≤ 9223372036854775807

/-- The script lies in memory. -/
structure ScriptAt (w : World) (a : Option Addr) (n : Nat) : Prop where
  step : ∀ i, i < n → ∃ b o what x y al nl cl xs, a = some ⟨b, o, none⟩ ∧ StepAt w b (o + i * 4) what x y al nl cl xs

theorem neg_tmod_lt (c : Int) (n : Nat) (h : c < 0) (hn : 0 < n) : ∃ k : Nat, k < n ∧ -(c + 1).tmod (n : Int) = (k : Int) := by
  obtain ⟨m, hm⟩ : ∃ m : Nat, c + 1 = -(m : Int) := ⟨(-(c + 1)).toNat, by omega⟩
  refine ⟨m % n, Nat.mod_lt _ hn, ?_⟩
  rw [hm, Int.neg_tmod, Int.neg_neg, Int.tmod_eq_emod_of_nonneg (by omega)]
  exact (Int.natCast_emod m n).symm

theorem emod_lt (c : Int) (n : Nat) (h : 0 ≤ c) (hn : 0 < n) : ∃ k : Nat, k < n ∧ c % (n : Int) = (k : Int) := by
  obtain ⟨m, rfl⟩ := Int.eq_ofNat_of_zero_le h
  exact ⟨m % n, Nat.mod_lt _ hn, (Int.natCast_emod m n).symm⟩

set_option maxHeartbeats 400000 in
theorem pick_any (c : Int) (n : Nat) (w : World) (hc : -9223372036854775808 ≤ c ∧ c ≤ 9223372036854775807) (hn : 0 < n) (hn2 : n ≤ 1000) :
    Calls Tryd.prog 4 #[.int .i64 c, .int .i64 n] w fun e w' => ∃ k : Nat, k < n ∧ e = .returned (.int .i64 k) ∧ w' = w := by
  have hne : ((n : Int) == 0) = false := by rw [beq_eq_false_iff_ne]; omega
  by_cases h : c < 0
  · obtain ⟨k, hk, e⟩ := neg_tmod_lt c n h hn
    have E : Hid (-(c + 1).tmod (n : Int) = (k : Int)) := e
    clear e
    go_enter Tryd.func4, Tryd.ntmps4
    go_wp2
    go_ret
    exact ⟨k, hk, by rw [E.out]; rfl, rfl⟩
  · obtain ⟨k, hk, e⟩ := emod_lt c n (Int.not_lt.1 h) hn
    have E : Hid (c % (n : Int) = (k : Int)) := e
    clear e
    go_enter Tryd.func4, Tryd.ntmps4
    go_wp2
    go_ret
    exact ⟨k, hk, by rw [E.out]; rfl, rfl⟩

/-- The first loop in a code. -/
def firstLoop : Code → Option Code
  | .loop c => some c
  | .seq a b => match firstLoop a with
    | some c => some c
    | none => firstLoop b
  | .block _ c => firstLoop c
  | .scope c => firstLoop c
  | .cond _ a b => match firstLoop a with
    | some c => some c
    | none => firstLoop b
  | _ => none

/-- The first block of a number in a code, whole. -/
def blockOf (n : Nat) : Code → Option Code
  | .loop c => blockOf n c
  | .seq a b => match blockOf n a with
    | some c => some c
    | none => blockOf n b
  | .block k c => if k = n then some (.block k c) else blockOf n c
  | .scope c => blockOf n c
  | .cond _ a b => match blockOf n a with
    | some c => some c
    | none => blockOf n b
  | _ => none

end Go.Proofs.YtpmkllmeilhakaaDoor
