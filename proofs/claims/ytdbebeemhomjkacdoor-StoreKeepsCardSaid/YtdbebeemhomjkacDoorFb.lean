/-
  The landed store: write and read, a number as bytes.
-/
import Derived.Test.YtdbebeemhomjkacDoorFa
import Derived.Test.YtdbebeemhomjkacDoorDs
import Derived.Lib.LazyBuf
namespace Go.Proofs.YtdbebeemhomjkacDoor.Sk
open Go.RowKit Go.Deep Go.Proofs.YtdbebeemhomjkacDoor.Dk
open Go.RowKit (Below)
set_option linter.unusedVariables false

variable {w w' : World} {b o k n N c : Nat} {f : Nat → Value}

/-- A row's cells with k bytes of a number from o on. -/
def putLow (f : Nat → Value) (o k n : Nat) : Nat → Value := fun i => if o ≤ i ∧ i < o + k then by1 (byt n (i - o)) else f i

theorem putLow_more (f : Nat → Value) (o j n i : Nat) : putLow f o (j + 1) n i = if i = o + j then by1 (byt n j) else putLow f o j n i := by
  unfold putLow
  by_cases h : i = o + j
  · rw [if_pos h, if_pos (by omega), h, show o + j - o = j by omega]
  · rw [if_neg h]
    by_cases h2 : o ≤ i ∧ i < o + j
    · rw [if_pos h2, if_pos (by omega)]
    · rw [if_neg h2, if_neg (by omega)]

theorem set_turn {i : Nat} {v : Value} {wr : World} (h : Turn (fun x => x = b) w wr) : Turn (fun x => x = b) w (wr.setCell ⟨b, i, none⟩ v) :=
  ⟨h.os, h.tape, h.output, by simpa using h.size, fun q hq hn => by
    rw [← h.block q hq hn]
    simp [World.setCell, Array.getElem?_modify, Ne.symm hn]⟩

theorem shr_pow (n j : Nat) (hj : j < 8) : (n : Int) / 2 ^ min ((8 * (j : Int)).toNat) 64 = ((n / 256 ^ j : Nat) : Int) := by
  rw [show (8 * (j : Int)).toNat = 8 * j by omega, Nat.min_eq_left (by omega), pow_two]
  norm_cast

set_option maxRecDepth 100000 in
set_option maxHeartbeats 4000000 in
theorem write_any (h : w.rowIs b 5 N f) (hk : o + k ≤ N) (hN : N ≤ 1000) (hk8 : k ≤ 8) (hc : k ≤ c) (hn : n < 9223372036854775808) :
    Calls Tryd.prog 66 #[.slice (some ⟨b, o, none⟩) k c, .int .i64 (n : Nat)] w fun e w' => e = .returned (.tuple #[]) ∧ w'.rowIs b 5 N (putLow f o k n) ∧ Turn (fun x => x = b) w w' := by
  have H0 : Hid (w.rowIs b 5 N (putLow f o 0 n)) := h.congr fun i _ => by unfold putLow; rw [if_neg (by omega)]
  have HK : Hid (o + k ≤ N ∧ N ≤ 1000 ∧ k ≤ 8 ∧ k ≤ c ∧ n < 9223372036854775808) := ⟨hk, hN, hk8, hc, hn⟩
  clear h hk hN hk8 hc hn
  go_enter Tryd.func66, Tryd.ntmps66
  go_wp2_with fail
  go_loopw [7] (fun i wr => ∃ j : Nat, j ≤ k ∧ i = .int .i64 (j : Nat) ∧ wr.rowIs b 5 N (putLow f o j n) ∧ Turn (fun x => x = b) w wr) (fun i _ => k - (intOf i).toNat)
  case atStart => exact ⟨0, Nat.zero_le _, rfl, H0.out, Turn.refl w⟩
  case round =>
    obtain ⟨j, hj, rfl, hrow, ht⟩ := hrel
    by_cases hlt : j < k
    · have j1 : (j : Int) < (k : Int) := by omega
      have j0 : (0 : Int) ≤ (j : Int) := by omega
      have j5 : IntKind.i64.wrap ((j : Int) + 1) = (j : Int) + 1 := by rw [IntKind.wrap_i64]; have := HK.out; omega
      have j6 : IntKind.i64.wrap (8 * (j : Int)) = 8 * (j : Int) := by rw [IntKind.wrap_i64]; have := HK.out; omega
      have j7 : (0 : Int) ≤ 8 * (j : Int) := by omega
      have j8 : (n : Int) / 2 ^ min ((8 * (j : Int)).toNat) 64 = ((n / 256 ^ j : Nat) : Int) := shr_pow n j (by have := HK.out; omega)
      have j9 : IntKind.u8.wrap ((n / 256 ^ j : Nat) : Int) = ((byt n j).toNat : Int) := by rw [byt_nat, IntKind.wrap_u8']; omega
      obtain ⟨y, hy⟩ : ∃ y, n / 256 ^ j = y := ⟨_, rfl⟩
      obtain ⟨z, hz⟩ : ∃ z, (byt n j).toNat = z := ⟨_, rfl⟩
      rw [hy] at j8 j9
      rw [hz] at j9
      have d0 := hrow.cell (i := o + j) (by have := HK.out; omega)
      have z0 := hrow.frozen (o + j)
      have HN : Hid ((wr.setCell ⟨b, o + j, none⟩ (.int .u8 (z : Int))).rowIs b 5 N (putLow f o (j + 1) n) ∧ Turn (fun x => x = b) w (wr.setCell ⟨b, o + j, none⟩ (.int .u8 (z : Int)))) :=
        ⟨(hrow.set (o + j) _).congr fun i _ => by rw [putLow_more, by1, hz], set_turn ht⟩
      clear hrow ht H0 hy hz
      go_wp2_with fail
      go_roundw
      case rel => exact ⟨j + 1, by omega, by go_num, HN.out⟩
      case measure => simp [intOf]; omega
    · have j1 : ¬ (j : Int) < (k : Int) := by omega
      obtain rfl : j = k := by omega
      have HN : Hid (wr.rowIs b 5 N (putLow f o j n) ∧ Turn (fun x => x = b) w wr) := ⟨hrow, ht⟩
      clear hrow ht H0
      go_wp2_with fail
      go_end0
      exact ⟨rfl, HN.out⟩

set_option maxRecDepth 100000 in
set_option maxHeartbeats 4000000 in
theorem read_any {B : Nat} (h : ∀ i, i < k → w.cell? ⟨b, o + i, none⟩ = some (by1 (byt n i))) (hk8 : k ≤ 8) (hk1 : 1 ≤ k) (hc : k ≤ c) (hn : n < 9223372036854775808) (hn2 : n < 256 ^ k) :
    Calls Tryd.prog 67 #[.slice (some ⟨b, o, none⟩) k c] w fun e w' => e = .returned (.int .i64 (n : Nat)) ∧ w' = w := by
  have H0 : Hid (∀ i, i < k → w.cell? ⟨b, o + i, none⟩ = some (by1 (byt n i))) := h
  have HK : Hid (k ≤ 8 ∧ k ≤ c ∧ n < 9223372036854775808 ∧ n < 256 ^ k) := ⟨hk8, hc, hn, hn2⟩
  have z0 : ((n % 256 ^ 0 : Nat) : Int) = 0 := by simp [Nat.mod_one]
  clear h hk8 hc hn hn2 hk1
  go_enter Tryd.func67, Tryd.ntmps67
  go_wp2_with fail
  go_loopw [3, 8] (fun v i wr => ∃ j : Nat, j ≤ k ∧ i = .int .i64 (j : Nat) ∧ v = .int .i64 ((n % 256 ^ j : Nat) : Int) ∧ wr = w) (fun _ i _ => k - (intOf i).toNat)
  case atStart => exact ⟨0, Nat.zero_le _, rfl, by rw [z0], rfl⟩
  case round =>
    obtain ⟨j, hj, rfl, rfl, rfl⟩ := hrel
    by_cases hlt : j < k
    · have j1 : (j : Int) < (k : Int) := by omega
      have j0 : (0 : Int) ≤ (j : Int) := by omega
      have j5 : IntKind.i64.wrap ((j : Int) + 1) = (j : Int) + 1 := by rw [IntKind.wrap_i64]; have := HK.out; omega
      have j6 : IntKind.i64.wrap (8 * (j : Int)) = 8 * (j : Int) := by rw [IntKind.wrap_i64]; have := HK.out; omega
      have j7 : (0 : Int) ≤ 8 * (j : Int) := by omega
      have d0 := H0.out j hlt
      have e1 : IntKind.i64.wrap ((byt n j).toNat : Int) = ((byt n j).toNat : Int) := by rw [IntKind.wrap_i64]; have := (byt n j).toNat_lt; omega
      have e2 : IntKind.i64.wrap (((byt n j).toNat : Int) * 2 ^ min ((8 * (j : Int)).toNat) 64) = ((n / 256 ^ j % 256 * 256 ^ j : Nat) : Int) := by
        have h1 : n % 256 ^ (j + 1) ≤ n := Nat.mod_le _ _
        have h3 := mod_more n j
        have h4 : n / 256 ^ j % 256 * 256 ^ j = 256 ^ j * (n / 256 ^ j % 256) := Nat.mul_comm _ _
        have h5 := HK.out
        rw [byt_nat, show (8 * (j : Int)).toNat = 8 * j by omega, Nat.min_eq_left (by omega), show ((2 : Int) ^ (8 * j)) = ((256 ^ j : Nat) : Int) by rw [pow_two]; norm_cast, IntKind.wrap_i64, ← Int.natCast_mul]
        omega
      have e3 := or_more (i := j) HK.out.2.2.1
      unfold by1 at d0
      obtain ⟨y, hy⟩ : ∃ y, n / 256 ^ j % 256 * 256 ^ j = y := ⟨_, rfl⟩
      obtain ⟨z, hz⟩ : ∃ z, (byt n j).toNat = z := ⟨_, rfl⟩
      obtain ⟨p, hp⟩ : ∃ p, n % 256 ^ j = p := ⟨_, rfl⟩
      obtain ⟨q, hq⟩ : ∃ q, n % 256 ^ (j + 1) = q := ⟨_, rfl⟩
      rw [hy] at e2 e3
      rw [hz] at e1 e2 d0
      rw [hp, hq] at e3
      rw [hp]
      have HQ : Hid (n % 256 ^ (j + 1) = q) := hq
      clear hy hz hp hq
      clear H0 z0
      go_wp2_with fail
      go_roundw
      case rel => exact ⟨j + 1, by omega, by go_num, by rw [HQ.out], trivial⟩
      case measure => simp [intOf]; omega
    · have j1 : ¬ (j : Int) < (k : Int) := by omega
      obtain rfl : j = k := by omega
      have hn := Nat.mod_eq_of_lt HK.out.2.2.2
      rw [hn]
      clear H0 z0 hn
      go_wp2_with fail
      go_ret
      exact ⟨rfl, rfl⟩

end Go.Proofs.YtdbebeemhomjkacDoor.Sk
