/-
  Fa
-/
import Derived.Test.YtcfemppdeidjmacGreatW36
namespace Go.Proofs.YtcfemppdeidjmacGreat.Sk
open Go.RowKit Go.Deep Go.Proofs.YtcfemppdeidjmacGreat.Dk
open Go.RowKit (Below)
set_option linter.unusedVariables false

def byt (n i : Nat) : UInt8 := UInt8.ofNat (n / 256 ^ i % 256)
def low (k n : Nat) : List UInt8 := (List.range k).map (byt n)

theorem byt_nat (n i : Nat) : (byt n i).toNat = n / 256 ^ i % 256 := by
  unfold byt
  rw [UInt8.toNat_ofNat']
  exact Nat.mod_eq_of_lt (by have := Nat.mod_lt (n / 256 ^ i) (show 256 > 0 by decide); omega)
theorem low_len (k n : Nat) : (low k n).length = k := by simp [low]
theorem low_getD {k n i : Nat} (h : i < k) : (low k n).getD i 0 = byt n i := by
  simp [low, List.getD_eq_getElem?_getD, h]
theorem byt_zero (i : Nat) : byt 0 i = 0 := by
  unfold byt
  simp

theorem mod_more (n i : Nat) : n % 256 ^ (i + 1) = n % 256 ^ i + 256 ^ i * (n / 256 ^ i % 256) := by
  rw [Nat.pow_succ, Nat.mod_mul]

theorem pow_two (i : Nat) : (256 : Nat) ^ i = 2 ^ (8 * i) := by
  rw [Nat.pow_mul]

theorem or_nat (a b : Nat) (ha : a < 9223372036854775808) (hb : b < 9223372036854775808) : bits .or .i64 (a : Int) (b : Int) = ((a ||| b : Nat) : Int) := by
  have h : a ||| b < 2 ^ 63 := Nat.or_lt_two_pow ha hb
  show IntKind.i64.wrap (((BitVec.ofInt 64 (a : Int)) ||| (BitVec.ofInt 64 (b : Int))).toNat : Int) = _
  rw [BitVec.toNat_or, BitVec.ofInt_natCast, BitVec.ofInt_natCast, BitVec.toNat_ofNat, BitVec.toNat_ofNat, Nat.mod_eq_of_lt (by omega), Nat.mod_eq_of_lt (by omega), IntKind.wrap_i64]
  omega

theorem or_more {n i : Nat} (hn : n < 9223372036854775808) : bits .or .i64 ((n % 256 ^ i : Nat) : Int) (((n / 256 ^ i % 256) * 256 ^ i : Nat) : Int) = ((n % 256 ^ (i + 1) : Nat) : Int) := by
  have h1 : n % 256 ^ (i + 1) ≤ n := Nat.mod_le _ _
  have h2 : n % 256 ^ i ≤ n := Nat.mod_le _ _
  have h3 := mod_more n i
  have h4 : n / 256 ^ i % 256 * 256 ^ i = 256 ^ i * (n / 256 ^ i % 256) := Nat.mul_comm _ _
  rw [or_nat _ _ (by omega) (by omega), mod_more, h4, Nat.or_comm, Nat.add_comm]
  have h5 : n % 256 ^ i < 2 ^ (8 * i) := by rw [← pow_two]; exact Nat.mod_lt _ (Nat.pow_pos (by decide))
  have h6 := Nat.two_pow_add_eq_or_of_lt h5 (n / 256 ^ i % 256)
  rw [← pow_two] at h6
  rw [h6]

def mrk : List UInt8 := [102, 111, 111, 116, 98, 114, 105, 100, 103, 101, 32, 115, 116, 111, 114, 101]
def headP (h l t : Nat) : List UInt8 := mrk ++ (low 1 h ++ (low 2 l ++ (low 8 t ++ List.replicate 5 0)))

theorem headP_len (h l t : Nat) : (headP h l t).length = 32 := by simp [headP, mrk, low_len]
theorem headP_pad (h l t : Nat) : pad (headP h l t) = headP h l t := by
  unfold pad
  rw [headP_len]
  simp

theorem headP_at (h l t i : Nat) (hi : i < 32) : (headP h l t).getD i 0 = if i < 16 then mrk.getD i 0 else if i < 17 then byt h (i - 16) else if i < 19 then byt l (i - 17) else if i < 27 then byt t (i - 19) else 0 := by
  have hm : mrk.length = 16 := rfl
  unfold headP
  rw [List.getD_eq_getElem?_getD, List.getElem?_append, hm]
  by_cases h1 : i < 16
  · rw [if_pos h1, if_pos h1, List.getD_eq_getElem?_getD]
  · rw [if_neg h1, if_neg h1, List.getElem?_append, low_len]
    by_cases h2 : i < 17
    · rw [if_pos (by omega), if_pos h2, ← List.getD_eq_getElem?_getD, low_getD (by omega)]
    · rw [if_neg (by omega), if_neg h2, List.getElem?_append, low_len]
      by_cases h3 : i < 19
      · rw [if_pos (by omega), if_pos h3, ← List.getD_eq_getElem?_getD, low_getD (by omega), show i - 16 - 1 = i - 17 by omega]
      · rw [if_neg (by omega), if_neg h3, List.getElem?_append, low_len]
        by_cases h4 : i < 27
        · rw [if_pos (by omega), if_pos h4, ← List.getD_eq_getElem?_getD, low_getD (by omega), show i - 16 - 1 - 2 = i - 19 by omega]
        · rw [if_neg (by omega), if_neg h4, List.getElem?_replicate]
          split <;> rfl

theorem headP_not_blank (h l t : Nat) : Dk.blank ≠ headP h l t := fun e => by
  have : Dk.blank.getD 0 0 = (headP h l t).getD 0 0 := by rw [← e]
  rw [headP_at h l t 0 (by omega), if_pos (by decide)] at this
  exact absurd this (by decide)

def chunk (l : List UInt8) (i : Nat) : List UInt8 := (l.drop (32 * i)).take 32
theorem chunk_le (l : List UInt8) (i : Nat) : (chunk l i).length ≤ 32 := by simp [chunk]; omega
def at0 (h : Nat) : Nat := 1 + 30 * h
def Has (f : Nat → List UInt8) (h : Nat) (l : List UInt8) : Prop := ∀ i, 32 * i < l.length → f (at0 h + i) = pad (chunk l i)
def Good (f : Nat → List UInt8) (h : Nat) (l : List UInt8) (t : Nat) : Prop := f 0 = headP h l.length t ∧ Has f h l

theorem Good.of_same {f g : Nat → List UInt8} {h t : Nat} {l : List UInt8} (H : Good f h l t) (h0 : g 0 = f 0) (h1 : ∀ i, 32 * i < l.length → g (at0 h + i) = f (at0 h + i)) : Good g h l t :=
  ⟨h0.trans H.1, fun i hi => (h1 i hi).trans (H.2 i hi)⟩

def long (l : List UInt8) : List UInt8 := l ++ List.replicate 32 0
theorem pad_chunk {l : List UInt8} {i : Nat} (h : 32 * i < l.length) : pad (chunk l i) = ((long l).drop (32 * i)).take 32 := by
  unfold long pad chunk
  rw [List.drop_append_of_le_length (by omega), List.take_append, List.length_take, List.length_drop, List.take_replicate]
  congr 2
  omega
theorem long_more {l : List UInt8} {i : Nat} (h : 32 * i < l.length) : (long l).take (32 * i) ++ pad (chunk l i) = (long l).take (32 * (i + 1)) := by
  rw [pad_chunk h, show 32 * (i + 1) = 32 * i + 32 by omega, List.take_add]

theorem play_out {q : Nat → Bool} {a : Nat} : ∀ (l : List (Nat × List UInt8)) (i : Nat) (f : Nat → List UInt8), (∀ x ∈ l, x.1 ≠ a) → play q i l f a = f a
  | [], i, f, _ => rfl
  | (b, p) :: r, i, f, h => by
    show play q (i + 1) r (if q i then upd f b p else f) a = f a
    rw [play_out r (i + 1) _ fun x hx => h x (List.mem_cons_of_mem _ hx)]
    split
    · exact upd_other f p fun e => h (b, p) List.mem_cons_self e.symm
    · rfl

end Go.Proofs.YtcfemppdeidjmacGreat.Sk
