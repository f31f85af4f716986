/-
  What package disk is to answer: its calls, by what a disk's state is and which blocks it stands on.
  A head on a page, bytes on pages, plain.
  The landed disk, as it lies in memory.
-/
import Derived.Test.YtcfemppdeidjmadGreatF10
import Derived.Deep.RegionHeld3
import Derived.WalkKit
import Derived.WalkLawsBesides
import Derived.WalkSpells
import Derived.Stop.Asserts
import Derived.LaidEql
import Derived.Laws.OwnMore
import Derived.Laws.CopyRow
import Derived.Deep.MidRow
import Derived.Deep.AppendLies
namespace Go.Proofs.YtcfemppdeidjmadGreat.Dk
open Go.RowKit Go.Deep
open Go.RowKit (Below)
set_option linter.unusedVariables false

variable {w w' w'' : World} {F F' : Nat → Prop}

/-- Nothing but these blocks has turned. -/
structure Turn (F : Nat → Prop) (w w' : World) : Prop where
  os : w'.os = w.os
  tape : w'.tape = w.tape
  output : w'.output = w.output
  size : w.heap.size ≤ w'.heap.size
  block : ∀ k, k < w.heap.size → ¬ F k → w'.heap[k]? = w.heap[k]?

theorem Turn.of_below (h : Below w.heap.size w w') : Turn F w w' := ⟨h.os, h.tape, h.output, h.size, fun k hk _ => h.block k hk⟩
theorem Turn.refl (w : World) : Turn F w w := ⟨rfl, rfl, rfl, Nat.le_refl _, fun _ _ _ => rfl⟩
theorem Turn.trans (h : Turn F w w') (h' : Turn F w' w'') : Turn F w w'' :=
  ⟨h'.os.trans h.os, h'.tape.trans h.tape, h'.output.trans h.output, Nat.le_trans h.size h'.size, fun k hk hn => (h'.block k (Nat.lt_of_lt_of_le hk h.size) hn).trans (h.block k hk hn)⟩
theorem Turn.mono (h : Turn F w w') (hF : ∀ k, k < w.heap.size → F k → F' k) : Turn F' w w' := ⟨h.os, h.tape, h.output, h.size, fun k hk hn => h.block k hk fun q => hn (hF k hk q)⟩
theorem Turn.below {base : Nat} {w0 : World} (h : Turn F w w') (hb : Below base w0 w) (hs : base ≤ w.heap.size) (hF : ∀ k, F k → base ≤ k) : Below base w0 w' :=
  hb.trans ⟨h.os, h.tape, h.output, h.size, fun k hk => h.block k (Nat.lt_of_lt_of_le hk hs) fun q => by have := hF k q; omega⟩
theorem Turn.cell (h : Turn F w w') {b o : Nat} {v : Value} (hb : ¬ F b) (hc : w.cell? ⟨b, o, none⟩ = some v) : w'.cell? ⟨b, o, none⟩ = some v :=
  (World.cell?_of_block (w := w) (a := ⟨b, o, none⟩) (h.block b (World.block_lt_of_cell? _ _ hc) hb)).trans hc

/-- An error by its number. -/
def Er (v : Value) (x : Int) : Prop := (v = .nilIface ∧ x = 0) ∨ (v = .iface 66 (.int .i64 x) ∧ x ≠ 0)

/-- How Write ends, and what state it leaves. -/
def Writes (n : Nat) (s : St) (at_ : Int) (l : List UInt8) (x : Int) (s' : St) : Prop :=
  ((at_ < 0 ∨ (n : Int) ≤ at_) ∧ x = 1 ∧ s' = s) ∨ ((0 ≤ at_ ∧ at_ < n) ∧ 32 < l.length ∧ x = 3 ∧ s' = s) ∨
  ((0 ≤ at_ ∧ at_ < n) ∧ l.length ≤ 32 ∧ Off s ∧ x = 8 ∧ s' = fall s) ∨ ((0 ≤ at_ ∧ at_ < n) ∧ l.length ≤ 32 ∧ ¬ Off s ∧ x = 0 ∧ s' = wrote s at_.toNat (pad l))
def Syncs (s : St) (x : Int) (s' : St) : Prop := (Off s ∧ x = 8 ∧ s' = fall s) ∨ (¬ Off s ∧ x = 0 ∧ s' = synced s)

/-- Is it among the numbers? -/
def among (m : Nat) (f : Nat → Int) (i : Nat) : Bool := (List.range m).any fun k => decide (f k = (i : Int))
theorem among_iff {m : Nat} {f : Nat → Int} {i : Nat} : among m f i = true ↔ ∃ k, k < m ∧ f k = (i : Int) := by
  simp [among]

/-- A disk in memory: the world, where the call's own blocks begin, the pointer, how many pages, its state, the blocks that it stands on. -/
abbrev Face := World → Nat → Value → Nat → St → (Nat → Prop) → Prop

/-- What package disk is to answer. -/
structure DiskOk (D : Face) : Prop where
  keep : ∀ {w w' : World} {base n : Nat} {d : Value} {s : St} {F : Nat → Prop}, D w base d n s F → w.heap.size ≤ w'.heap.size → (∀ b, F b → w'.heap[b]? = w.heap[b]?) → D w' base d n s F
  own : ∀ {w : World} {base n : Nat} {d : Value} {s : St} {F : Nat → Prop}, D w base d n s F → ∀ b, F b → base ≤ b ∧ b < w.heap.size
  new_no : ∀ {w : World} (k : Int), k < 1 ∨ 80 < k → Calls Tryz.prog 16 #[.int .i64 k] w fun e w' => e = .returned (.tuple #[.pointer none, .iface 66 (.int .i64 1)]) ∧ Below w.heap.size w w'
  new_ok : ∀ {w : World} (n : Nat), 1 ≤ n → n ≤ 80 → Calls Tryz.prog 16 #[.int .i64 (n : Nat)] w fun e w' => ∃ d F, e = .returned (.tuple #[d, .nilIface]) ∧ D w' w.heap.size d n fresh F ∧ Below w.heap.size w w'
  write : ∀ {w : World} {base n : Nat} {d : Value} {s : St} {F : Nat → Prop} {a : Option Addr} {l : List UInt8} {c : Nat} (k : Int), D w base d n s F → base ≤ w.heap.size → BtAt w a l → l.length ≤ c → c ≤ maxLen → (l ≠ [] → ∀ b o, a = some ⟨b, o, none⟩ → ¬ F b) → (a = none → c = 0) → s.wr.length ≤ 1000 →
    Calls Tryz.prog 102 #[d, .int .i64 k, .slice a l.length c] w fun e w' => ∃ v x s' F', e = .returned v ∧ Er v x ∧ Writes n s k l x s' ∧ D w' base d n s' F' ∧ (∀ b, F' b → F b ∨ w.heap.size ≤ b) ∧ Turn F w w'
  sync : ∀ {w : World} {base n : Nat} {d : Value} {s : St} {F : Nat → Prop}, D w base d n s F → base ≤ w.heap.size →
    Calls Tryz.prog 104 #[d] w fun e w' => ∃ v x s' F', e = .returned v ∧ Er v x ∧ Syncs s x s' ∧ D w' base d n s' F' ∧ (∀ b, F' b → F b ∨ w.heap.size ≤ b) ∧ Turn F w w'
  read_ok : ∀ {w : World} {base n : Nat} {d : Value} {s : St} {F : Nat → Prop} (i : Nat), D w base d n s F → base ≤ w.heap.size → i < n →
    Calls Tryz.prog 105 #[d, .int .i64 (i : Nat)] w fun e w' => ∃ k c, e = .returned (.tuple #[.slice (some ⟨k, 0, none⟩) 32 c, .nilIface]) ∧ (s.now i).length = 32 ∧ BtAt w' (some ⟨k, 0, none⟩) (s.now i) ∧ w.heap.size ≤ k ∧ Below w.heap.size w w'
  read_32 : ∀ {w : World} {base n : Nat} {d : Value} {s : St} {F : Nat → Prop} (i : Nat), D w base d n s F → base ≤ w.heap.size → i < n →
    Calls Tryz.prog 105 #[d, .int .i64 (i : Nat)] w fun e w' => ∃ k, e = .returned (.tuple #[.slice (some ⟨k, 0, none⟩) 32 32, .nilIface]) ∧ (s.now i).length = 32 ∧ BtAt w' (some ⟨k, 0, none⟩) (s.now i) ∧ w.heap.size ≤ k ∧ Below w.heap.size w w'
  pages : ∀ {w : World} {base n : Nat} {d : Value} {s : St} {F : Nat → Prop}, D w base d n s F → Calls Tryz.prog 67 #[d] w fun e w' => e = .returned (.int .i64 (n : Nat)) ∧ Below w.heap.size w w'

end Go.Proofs.YtcfemppdeidjmadGreat.Dk

namespace Go.Proofs.YtcfemppdeidjmadGreat.Sk
open Go.RowKit Go.Deep Go.Proofs.YtcfemppdeidjmadGreat.Dk
open Go.RowKit (Below)
set_option linter.unusedVariables false

/-- A number's i-th byte, the lowest first; k of them. -/
def byt (n i : Nat) : UInt8 := UInt8.ofNat (n / 256 ^ i % 256)
def low (k n : Nat) : List UInt8 := (List.range k).map (byt n)

theorem byt_nat (n i : Nat) : (byt n i).toNat = n / 256 ^ i % 256 := by
  unfold byt
  rw [UInt8.toNat_ofNat']
  exact Nat.mod_eq_of_lt (by have := Nat.mod_lt (n / 256 ^ i) (show 256 > 0 by decide); omega)
theorem low_len (k n : Nat) : (low k n).length = k := by simp [low]
theorem low_getD {k n i : Nat} (h : i < k) : (low k n).getD i 0 = byt n i := by
  simp [low, List.getD_eq_getElem?_getD, h]
theorem byt_zero (i : Nat) : byt 0 i = 0 := by
  unfold byt
  simp

/-- One byte more. -/
theorem mod_more (n i : Nat) : n % 256 ^ (i + 1) = n % 256 ^ i + 256 ^ i * (n / 256 ^ i % 256) := by
  rw [Nat.pow_succ, Nat.mod_mul]

theorem pow_two (i : Nat) : (256 : Nat) ^ i = 2 ^ (8 * i) := by
  rw [Nat.pow_mul]

theorem or_nat (a b : Nat) (ha : a < 9223372036854775808) (hb : b < 9223372036854775808) : bits .or .i64 (a : Int) (b : Int) = ((a ||| b : Nat) : Int) := by
  have h : a ||| b < 2 ^ 63 := Nat.or_lt_two_pow ha hb
  show IntKind.i64.wrap (((BitVec.ofInt 64 (a : Int)) ||| (BitVec.ofInt 64 (b : Int))).toNat : Int) = _
  rw [BitVec.toNat_or, BitVec.ofInt_natCast, BitVec.ofInt_natCast, BitVec.toNat_ofNat, BitVec.toNat_ofNat, Nat.mod_eq_of_lt (by omega), Nat.mod_eq_of_lt (by omega), IntKind.wrap_i64]
  omega

/-- A round of read. -/
theorem or_more {n i : Nat} (hn : n < 9223372036854775808) : bits .or .i64 ((n % 256 ^ i : Nat) : Int) (((n / 256 ^ i % 256) * 256 ^ i : Nat) : Int) = ((n % 256 ^ (i + 1) : Nat) : Int) := by
  have h1 : n % 256 ^ (i + 1) ≤ n := Nat.mod_le _ _
  have h2 : n % 256 ^ i ≤ n := Nat.mod_le _ _
  have h3 := mod_more n i
  have h4 : n / 256 ^ i % 256 * 256 ^ i = 256 ^ i * (n / 256 ^ i % 256) := Nat.mul_comm _ _
  rw [or_nat _ _ (by omega) (by omega), mod_more, h4, Nat.or_comm, Nat.add_comm]
  have h5 : n % 256 ^ i < 2 ^ (8 * i) := by rw [← pow_two]; exact Nat.mod_lt _ (Nat.pow_pos (by decide))
  have h6 := Nat.two_pow_add_eq_or_of_lt h5 (n / 256 ^ i % 256)
  rw [← pow_two] at h6
  rw [h6]

/-- The mark of a head. -/
def mrk : List UInt8 := [102, 111, 111, 116, 98, 114, 105, 100, 103, 101, 32, 115, 116, 111, 114, 101]
/-- The page of a head: which half, how many bytes, how often some were saved. -/
def headP (h l t : Nat) : List UInt8 := mrk ++ (low 1 h ++ (low 2 l ++ (low 8 t ++ List.replicate 5 0)))

theorem headP_len (h l t : Nat) : (headP h l t).length = 32 := by simp [headP, mrk, low_len]
theorem headP_pad (h l t : Nat) : pad (headP h l t) = headP h l t := by
  unfold pad
  rw [headP_len]
  simp

theorem headP_at (h l t i : Nat) (hi : i < 32) : (headP h l t).getD i 0 = if i < 16 then mrk.getD i 0 else if i < 17 then byt h (i - 16) else if i < 19 then byt l (i - 17) else if i < 27 then byt t (i - 19) else 0 := by
  have hm : mrk.length = 16 := rfl
  unfold headP
  rw [List.getD_eq_getElem?_getD, List.getElem?_append, hm]
  by_cases h1 : i < 16
  · rw [if_pos h1, if_pos h1, List.getD_eq_getElem?_getD]
  · rw [if_neg h1, if_neg h1, List.getElem?_append, low_len]
    by_cases h2 : i < 17
    · rw [if_pos (by omega), if_pos h2, ← List.getD_eq_getElem?_getD, low_getD (by omega)]
    · rw [if_neg (by omega), if_neg h2, List.getElem?_append, low_len]
      by_cases h3 : i < 19
      · rw [if_pos (by omega), if_pos h3, ← List.getD_eq_getElem?_getD, low_getD (by omega), show i - 16 - 1 = i - 17 by omega]
      · rw [if_neg (by omega), if_neg h3, List.getElem?_append, low_len]
        by_cases h4 : i < 27
        · rw [if_pos (by omega), if_pos h4, ← List.getD_eq_getElem?_getD, low_getD (by omega), show i - 16 - 1 - 2 = i - 19 by omega]
        · rw [if_neg (by omega), if_neg h4, List.getElem?_replicate]
          split <;> rfl

theorem headP_not_blank (h l t : Nat) : Dk.blank ≠ headP h l t := fun e => by
  have : Dk.blank.getD 0 0 = (headP h l t).getD 0 0 := by rw [← e]
  rw [headP_at h l t 0 (by omega), if_pos (by decide)] at this
  exact absurd this (by decide)

/-- The bytes of one page. -/
def chunk (l : List UInt8) (i : Nat) : List UInt8 := (l.drop (32 * i)).take 32
theorem chunk_le (l : List UInt8) (i : Nat) : (chunk l i).length ≤ 32 := by simp [chunk]; omega
/-- Where a half begins. -/
def at0 (h : Nat) : Nat := 1 + 30 * h
/-- These bytes stand in this half. -/
def Has (f : Nat → List UInt8) (h : Nat) (l : List UInt8) : Prop := ∀ i, 32 * i < l.length → f (at0 h + i) = pad (chunk l i)
/-- The pages tell of these bytes, saved so often. -/
def Good (f : Nat → List UInt8) (h : Nat) (l : List UInt8) (t : Nat) : Prop := f 0 = headP h l.length t ∧ Has f h l

theorem Good.of_same {f g : Nat → List UInt8} {h t : Nat} {l : List UInt8} (H : Good f h l t) (h0 : g 0 = f 0) (h1 : ∀ i, 32 * i < l.length → g (at0 h + i) = f (at0 h + i)) : Good g h l t :=
  ⟨h0.trans H.1, fun i hi => (h1 i hi).trans (H.2 i hi)⟩

/-- Bytes with a page of 0 behind them. -/
def long (l : List UInt8) : List UInt8 := l ++ List.replicate 32 0
theorem long_len (l : List UInt8) : (long l).length = l.length + 32 := by simp [long]
theorem pad_chunk {l : List UInt8} {i : Nat} (h : 32 * i < l.length) : pad (chunk l i) = ((long l).drop (32 * i)).take 32 := by
  unfold long pad chunk
  rw [List.drop_append_of_le_length (by omega), List.take_append, List.length_take, List.length_drop, List.take_replicate]
  congr 2
  omega
/-- One page more. -/
theorem long_more {l : List UInt8} {i : Nat} (h : 32 * i < l.length) : (long l).take (32 * i) ++ pad (chunk l i) = (long l).take (32 * (i + 1)) := by
  rw [pad_chunk h, show 32 * (i + 1) = 32 * i + 32 by omega, List.take_add]
theorem long_take (l : List UInt8) {m : Nat} (h : l.length ≤ m) : ((long l).take m).take l.length = l := by
  rw [List.take_take, Nat.min_eq_left h]
  unfold long
  rw [List.take_append_of_le_length (Nat.le_refl _), List.take_length]
theorem long_take_len (l : List UInt8) {i : Nat} (h : 32 * i ≤ l.length + 32) : ((long l).take (32 * i)).length = 32 * i := by
  rw [List.length_take, long_len]; omega

/-! ### a disk that is written -/

/-- All that was written since all was kept lies on these pages. -/
def Within (s : St) (P : Nat → Prop) : Prop := ∀ x ∈ s.wr, P x.1

theorem play_out {q : Nat → Bool} {a : Nat} : ∀ (l : List (Nat × List UInt8)) (i : Nat) (f : Nat → List UInt8), (∀ x ∈ l, x.1 ≠ a) → play q i l f a = f a
  | [], i, f, _ => rfl
  | (b, p) :: r, i, f, h => by
    show play q (i + 1) r (if q i then upd f b p else f) a = f a
    rw [play_out r (i + 1) _ fun x hx => h x (List.mem_cons_of_mem _ hx)]
    split
    · exact upd_other f p fun e => h (b, p) List.mem_cons_self e.symm
    · rfl

end Go.Proofs.YtcfemppdeidjmadGreat.Sk

namespace Go.Proofs.YtcfemppdeidjmadGreat.Dk.L
open Go.RowKit Go.Deep
open Go.RowKit (Below)
set_option linter.unusedVariables false

variable {w w' : World} {B n kd g gn gk i j N : Nat} {F F' : Nat → Prop} {s : St} {v u R : Value} {l p : List UInt8} {f f' : Nat → List UInt8} {x : Int} {t : TypeId}

/-! Many cells of a block are set. -/
theorem blk_sets {b k : Nat} (hk : k ≠ b) : ∀ (vs : List Value) (o : Nat) (w : World), (w.setCells b o vs).heap[k]? = w.heap[k]?
  | [], _, _ => rfl
  | v :: r, o, w => by rw [World.setCells, blk_sets hk r (o + 1)]; exact blk_setCell_other _ _ _ _ hk
theorem size_sets {b : Nat} : ∀ (vs : List Value) (o : Nat) (w : World), (w.setCells b o vs).heap.size = w.heap.size
  | [], _, _ => rfl
  | v :: r, o, w => by rw [World.setCells, size_sets r (o + 1)]; simp
theorem os_sets {b : Nat} : ∀ (vs : List Value) (o : Nat) (w : World), (w.setCells b o vs).os = w.os ∧ (w.setCells b o vs).tape = w.tape ∧ (w.setCells b o vs).output = w.output
  | [], _, _ => ⟨rfl, rfl, rfl⟩
  | v :: r, o, w => by rw [World.setCells]; exact os_sets r (o + 1) _
theorem turn_sets {b : Nat} (hb : F b) (vs : List Value) (o : Nat) : Turn F w (w.setCells b o vs) :=
  ⟨(os_sets vs o w).1, (os_sets vs o w).2.1, (os_sets vs o w).2.2, Nat.le_of_eq (size_sets vs o w).symm, fun k _ hk => blk_sets (fun e => hk (by rw [e]; exact hb)) vs o w⟩
theorem turn_set {b : Nat} (hb : F b) (v : Value) : Turn F w (w.setCell ⟨b, i, none⟩ v) :=
  ⟨rfl, rfl, rfl, by simp, fun k _ hk => blk_setCell_other _ _ _ _ fun e => hk (by rw [e]; exact hb)⟩
theorem row_sets {b : Nat} : ∀ (vs : List Value) (o : Nat) (w : World) (f : Nat → Value), w.rowIs b t N f → (w.setCells b o vs).rowIs b t N (fun j => if o ≤ j ∧ j < o + vs.length then vs[j - o]?.getD default else f j)
  | [], o, w, f, h => h.congr (fun j _ => by rw [if_neg (by simp)])
  | v :: r, o, w, f, h => by
    have ih := row_sets r (o + 1) _ _ (h.set o v)
    refine ih.congr (fun j _ => ?_)
    by_cases h1 : j = o
    · subst h1
      rw [if_neg (by omega), if_pos rfl, if_pos (by simp), Nat.sub_self]
      rfl
    · by_cases h2 : o + 1 ≤ j ∧ j < o + 1 + r.length
      · rw [if_pos h2, if_pos (by simp; omega), show j - o = (j - (o + 1)) + 1 by omega, List.getElem?_cons_succ]
      · rw [if_neg h2, if_neg h1, if_neg (by simp; omega)]

/-- What kind of cells a block has. -/
def Tg (w : World) (k : Nat) (t : TypeId) : Prop := ∃ cs fr, w.heap[k]? = some (.cells cs t fr)
theorem Tg.one {k : Nat} {t t' : TypeId} (h : Tg w k t) (h' : Tg w k t') : t = t' := by
  obtain ⟨cs, fr, e⟩ := h
  obtain ⟨cs', fr', e'⟩ := h'
  rw [e] at e'
  cases e'
  rfl
theorem Tg.row {k : Nat} {m : Nat} {q : Nat → Value} (h : w.rowIs k t m q) : Tg w k t := by
  obtain ⟨cs, e, _⟩ := h
  exact ⟨cs, _, e⟩
theorem Tg.own {k b m M : Nat} {xs : List Value} (h : w.ownsRow b t m v M xs) (hk : v.ownBlock = some k) : Tg w k t := by
  rcases h.2 with ⟨h0, _⟩ | ⟨g', cap, cur, hv, h1, h2, h3⟩
  · rw [h0] at hk; cases hk
  · rw [hv] at hk
    cases hk
    exact ⟨cur, _, h2⟩
theorem own_block {b m M : Nat} {xs : List Value} (h : w.ownsRow b t m v M xs) (e : ∀ k, v.ownBlock = some k → w'.heap[k]? = w.heap[k]?) : w'.ownsRow b t m v M xs := by
  refine ⟨h.1, ?_⟩
  rcases h.2 with h0 | ⟨g, cap, cur, hv, h1, h2, h3⟩
  · exact Or.inl h0
  · exact Or.inr ⟨g, cap, cur, hv, h1, (e g (by rw [hv]; rfl)).trans h2, h3⟩

/-! A page's cells; pages. -/
def pg (p : List UInt8) : List Value := (List.range 32).map fun j => by1 (p.getD j 0)
theorem pg_len : (pg p).length = 32 := by simp [pg]
theorem pg_get (hj : j < 32) : (pg p)[j]? = some (by1 (p.getD j 0)) := by simp [pg, hj]
theorem pg_one : ∀ v ∈ pg p, v.oneCell' = true := by
  intro v hv
  obtain ⟨j, _, rfl⟩ := List.mem_map.1 hv
  rfl

def PgsAt (w : World) (g n : Nat) (f : Nat → List UInt8) : Prop := (∀ i, i < n → (f i).length = 32) ∧ w.rowIs g 196 (n * 32) fun k => by1 ((f (k / 32)).getD (k % 32) 0)

theorem PgsAt.of_block (h : PgsAt w g n f) (e : w'.heap[g]? = w.heap[g]?) : PgsAt w' g n f := ⟨h.1, h.2.of_block e⟩
theorem PgsAt.range (h : PgsAt w g n f) (hi : i < n) : w.rangeAt g (i * 32) (pg (f i)) := fun j v hv => by
  have hj : j < 32 := by have := (List.getElem?_eq_some_iff.1 hv).1; rwa [pg_len] at this
  rw [pg_get hj] at hv
  cases hv
  rw [h.2.cell (i := i * 32 + j) (by omega), show (i * 32 + j) / 32 = i by omega, show (i * 32 + j) % 32 = j by omega]
theorem PgsAt.there (h : PgsAt w g n f) (hi : i < n) : w.there g (i * 32) 32 := fun j hj => ⟨by rw [h.2.cell (i := i * 32 + j) (by omega)]; rfl, h.2.frozen _⟩
theorem PgsAt.set (h : PgsAt w g n f) (hi : i < n) (hp : p.length = 32) : PgsAt (w.setCells g (i * 32) (pg p)) g n (upd f i p) := by
  refine ⟨fun k hk => ?_, (row_sets (pg p) (i * 32) w _ h.2).congr fun k hk => ?_⟩
  · unfold upd
    split
    · exact hp
    · exact h.1 k hk
  · rw [pg_len]
    by_cases e : k / 32 = i
    · rw [if_pos (by omega), show k - i * 32 = k % 32 by omega, pg_get (by omega), e, upd_same]
      rfl
    · rw [if_neg (by omega), upd_other f p e]

/-- All pages' cells. -/
def flat (n : Nat) (f : Nat → List UInt8) : List Value := (List.range (n * 32)).map fun k => by1 ((f (k / 32)).getD (k % 32) 0)
theorem flat_len : (flat n f).length = n * 32 := by simp [flat]
theorem flat_get (hj : j < n * 32) : (flat n f)[j]? = some (by1 ((f (j / 32)).getD (j % 32) 0)) := by simp [flat, hj]
theorem flat_one : ∀ v ∈ flat n f, v.oneCell' = true := by
  intro v hv
  obtain ⟨j, _, rfl⟩ := List.mem_map.1 hv
  rfl
theorem PgsAt.all (h : PgsAt w g n f) : w.rangeAt g 0 (flat n f) := fun j v hv => by
  have hj : j < n * 32 := by have := (List.getElem?_eq_some_iff.1 hv).1; rwa [flat_len] at this
  rw [flat_get hj] at hv
  cases hv
  rw [Nat.zero_add]
  exact h.2.cell hj
theorem PgsAt.thereAll (h : PgsAt w g n f) : w.there g 0 (n * 32) := fun j hj => ⟨by rw [Nat.zero_add, h.2.cell hj]; rfl, h.2.frozen _⟩
theorem PgsAt.setAll (h : PgsAt w g n f) (hf : ∀ i, i < n → (f' i).length = 32) : PgsAt (w.setCells g 0 (flat n f')) g n f' := by
  refine ⟨hf, (row_sets (flat n f') 0 w _ h.2).congr fun k hk => ?_⟩
  rw [flat_len, if_pos (by omega), Nat.sub_zero, flat_get hk]
  rfl

/-! Writes. -/
def wc (x : Nat × List UInt8) : List Value := .int .i64 (x.1 : Nat) :: pg x.2
theorem wc_len {x : Nat × List UInt8} : (wc x).length = 33 := by simp [wc, pg_len]
theorem wc_one {x : Nat × List UInt8} : ∀ v ∈ wc x, v.oneCell' = true := by
  intro v hv
  rcases List.mem_cons.1 hv with rfl | hv
  · rfl
  · exact pg_one v hv
theorem wcs_len : ∀ (l : List (Nat × List UInt8)), (l.flatMap wc).length = l.length * 33
  | [] => rfl
  | x :: r => by rw [List.flatMap_cons, List.length_append, wc_len, wcs_len r, List.length_cons]; omega
theorem wcs_get : ∀ (l : List (Nat × List UInt8)) (i j : Nat), i < l.length → j < 33 → (l.flatMap wc)[i * 33 + j]? = (wc (l.getD i (0, [])))[j]?
  | [], i, j, h, _ => absurd h (Nat.not_lt_zero _)
  | x :: r, 0, j, _, hj => by
    rw [List.flatMap_cons, List.getElem?_append_left (by rw [wc_len]; omega), Nat.zero_mul, Nat.zero_add]
    rfl
  | x :: r, i + 1, j, h, hj => by
    rw [List.flatMap_cons, List.getElem?_append_right (by rw [wc_len]; omega), wc_len, show (i + 1) * 33 + j - 33 = i * 33 + j by omega, wcs_get r i j (by simpa using h) hj]
    rfl

structure WAt (w : World) (B n : Nat) (R : Value) (l : List (Nat × List UInt8)) : Prop where
  own : w.ownsRow B 198 33 R l.length (l.flatMap wc)
  el : ∀ x ∈ l, x.1 < n ∧ x.2.length = 32

theorem WAt.of_block {l : List (Nat × List UInt8)} (h : WAt w B n R l) (e : ∀ k, R.ownBlock = some k → w'.heap[k]? = w.heap[k]?) : WAt w' B n R l := ⟨own_block h.own e, h.el⟩
theorem WAt.form {l : List (Nat × List UInt8)} (h : WAt w B n R l) : ∃ ao c, R = .slice ao l.length c ∧ ∀ i, i < l.length → ∃ g, ao = some ⟨g, 0, none⟩ ∧ w.rangeAt g (i * 33) (wc (l.getD i (0, []))) := by
  rcases h.own.2 with ⟨h0, h1⟩ | ⟨g, cap, cur, hv, h1, h2, h3, h4, h5, h6⟩
  · exact ⟨none, 0, by rw [h0, h1], fun i hi => by omega⟩
  · refine ⟨_, cap, hv, fun i hi => ⟨g, rfl, fun j v hv => ?_⟩⟩
    have hj : j < 33 := by have := (List.getElem?_eq_some_iff.1 hv).1; rwa [wc_len] at this
    rw [← wcs_get l i j hi hj, ← h6, List.getElem?_take, if_pos (by omega)] at hv
    simp only [World.cell?, h2]
    simpa using hv
theorem WAt.at_ {l : List (Nat × List UInt8)} (h : WAt w B n R l) (hi : i < l.length) : (l.getD i (0, [])).1 < n ∧ (l.getD i (0, [])).2.length = 32 := by
  refine h.el _ ?_
  rw [List.getD_eq_getElem?_getD, List.getElem?_eq_getElem hi]
  exact List.getElem_mem hi

/-! The disk. -/
def dcs (gn gk n : Nat) (R : Value) (x : Int) (d : Bool) : Nat → Value := fun i => if i = 0 then .slice (some ⟨gn, 0, none⟩) n n else if i = 1 then .slice (some ⟨gk, 0, none⟩) n n else if i = 2 then R else if i = 3 then .int .i64 x else .bool d
/-- The steps that are left, as they lie: below 0 none fails. -/
def Lft (x y : Int) : Prop := x = y ∨ (x < 0 ∧ y < 0)

structure Ex (w : World) (B kd n : Nat) (s : St) (F : Nat → Prop) (gn gk : Nat) (R : Value) (x : Int) : Prop where
  row : w.rowIs kd 96 5 (dcs gn gk n R x s.down)
  now : PgsAt w gn n s.now
  kept : PgsAt w gk n s.kept
  wr : WAt w B n R s.wr
  ne : gn ≠ gk
  lft : Lft x s.left
  fn : F gn
  fk : F gk
  fr : ∀ k, R.ownBlock = some k → F k
  dk : F kd
  own : ∀ b, F b → B ≤ b ∧ b < w.heap.size
  small : 1 ≤ n ∧ n ≤ 80
  wide : -9223372036854775808 ≤ x ∧ x ≤ 9223372036854775807

theorem Ex.grow (h : Ex w B kd n s F gn gk R x) (hF : ∀ k, F k → F' k) (ho : ∀ b, F' b → B ≤ b ∧ b < w'.heap.size) (e : ∀ b, F b → w'.heap[b]? = w.heap[b]?) : Ex w' B kd n s F' gn gk R x :=
  ⟨h.row.of_block (e kd h.dk), h.now.of_block (e gn h.fn), h.kept.of_block (e gk h.fk), h.wr.of_block fun k hk => e k (h.fr k hk), h.ne, h.lft, hF _ h.fn, hF _ h.fk, fun k hk => hF _ (h.fr k hk), hF _ h.dk, ho, h.small, h.wide⟩
theorem Ex.keep (h : Ex w B kd n s F gn gk R x) (hs : w.heap.size ≤ w'.heap.size) (e : ∀ b, F b → w'.heap[b]? = w.heap[b]?) : Ex w' B kd n s F gn gk R x :=
  h.grow (fun _ q => q) (fun b q => ⟨(h.own b q).1, Nat.lt_of_lt_of_le (h.own b q).2 hs⟩) e
theorem Ex.below (h : Ex w B kd n s F gn gk R x) (hb : Below w.heap.size w w') : Ex w' B kd n s F gn gk R x := h.keep hb.size fun b q => hb.block b (h.own b q).2

theorem Ex.cell0 (h : Ex w B kd n s F gn gk R x) : w.cell? ⟨kd, 0, none⟩ = some (.slice (some ⟨gn, 0, none⟩) n n) := h.row.cell (i := 0) (by omega)
theorem Ex.cell1 (h : Ex w B kd n s F gn gk R x) : w.cell? ⟨kd, 1, none⟩ = some (.slice (some ⟨gk, 0, none⟩) n n) := h.row.cell (i := 1) (by omega)
theorem Ex.cell2 (h : Ex w B kd n s F gn gk R x) : w.cell? ⟨kd, 2, none⟩ = some R := h.row.cell (i := 2) (by omega)
theorem Ex.cell3 (h : Ex w B kd n s F gn gk R x) : w.cell? ⟨kd, 3, none⟩ = some (.int .i64 x) := h.row.cell (i := 3) (by omega)
theorem Ex.cell4 (h : Ex w B kd n s F gn gk R x) : w.cell? ⟨kd, 4, none⟩ = some (.bool s.down) := h.row.cell (i := 4) (by omega)
theorem Ex.free (h : Ex w B kd n s F gn gk R x) (i : Nat) : w.frozen? ⟨kd, i, none⟩ = false := h.row.frozen i

section
theorem Ex.kn (h : Ex w B kd n s F gn gk R x) : kd ≠ gn ∧ kd ≠ gk ∧ (∀ k, R.ownBlock = some k → k ≠ kd ∧ k ≠ gn ∧ k ≠ gk) := by
  refine ⟨fun e => ?_, fun e => ?_, fun k hk => ⟨fun e => ?_, fun e => ?_, fun e => ?_⟩⟩
  · have := Tg.row h.row; rw [e] at this; exact absurd (Tg.one this (Tg.row h.now.2)) (by decide)
  · have := Tg.row h.row; rw [e] at this; exact absurd (Tg.one this (Tg.row h.kept.2)) (by decide)
  · have := Tg.own h.wr.own hk; rw [e] at this; exact absurd (Tg.one this (Tg.row h.row)) (by decide)
  · have := Tg.own h.wr.own hk; rw [e] at this; exact absurd (Tg.one this (Tg.row h.now.2)) (by decide)
  · have := Tg.own h.wr.own hk; rw [e] at this; exact absurd (Tg.one this (Tg.row h.kept.2)) (by decide)

/-- One of the disk's own cells is set. -/
theorem Ex.setOwn (h : Ex w B kd n s F gn gk R x) {R' : Value} {x' : Int} {d' : Bool} {s' : St} (o : Nat) (v : Value) (hk : s'.kept = s.kept) (hn : s'.now = s.now) (hd : s'.down = d') (hw : WAt (w.setCell ⟨kd, o, none⟩ v) B n R' s'.wr) (hR : ∀ k, R'.ownBlock = some k → F k) (hl : Lft x' s'.left) (hx : -9223372036854775808 ≤ x' ∧ x' ≤ 9223372036854775807)
    (hc : ∀ i, i < 5 → (if i = o then v else dcs gn gk n R x s.down i) = dcs gn gk n R' x' d' i) : Ex (w.setCell ⟨kd, o, none⟩ v) B kd n s' F gn gk R' x' := by
  obtain ⟨k1, k2, k3⟩ := h.kn
  have ho : ∀ k, k ≠ kd → (w.setCell ⟨kd, o, none⟩ v).heap[k]? = w.heap[k]? := fun k hk => blk_setCell_other _ _ _ _ hk
  exact ⟨(h.row.set o v).congr fun i hi => by rw [hd]; exact hc i hi, by rw [hn]; exact h.now.of_block (ho gn k1.symm), by rw [hk]; exact h.kept.of_block (ho gk k2.symm), hw, h.ne, hl, h.fn, h.fk, hR, h.dk, fun b hb => ⟨(h.own b hb).1, by simpa using (h.own b hb).2⟩, h.small, hx⟩

theorem Ex.wrOwn (h : Ex w B kd n s F gn gk R x) (o : Nat) (v : Value) : WAt (w.setCell ⟨kd, o, none⟩ v) B n R s.wr := h.wr.of_block fun k hk => blk_setCell_other _ _ _ _ (h.kn.2.2 k hk).1

theorem Ex.setLeft (h : Ex w B kd n s F gn gk R x) {x' y : Int} (hl : Lft x' y) (hx : -9223372036854775808 ≤ x' ∧ x' ≤ 9223372036854775807) : Ex (w.setCell ⟨kd, 3, none⟩ (.int .i64 x')) B kd n { s with left := y } F gn gk R x' :=
  h.setOwn 3 _ rfl rfl rfl (h.wrOwn _ _) h.fr hl hx fun i hi => by
    have : i = 0 ∨ i = 1 ∨ i = 2 ∨ i = 3 ∨ i = 4 := by omega
    rcases this with rfl | rfl | rfl | rfl | rfl <;> rfl
theorem Ex.setDown (h : Ex w B kd n s F gn gk R x) (d : Bool) : Ex (w.setCell ⟨kd, 4, none⟩ (.bool d)) B kd n { s with down := d } F gn gk R x :=
  h.setOwn 4 _ rfl rfl rfl (h.wrOwn _ _) h.fr h.lft h.wide fun i hi => by
    have : i = 0 ∨ i = 1 ∨ i = 2 ∨ i = 3 ∨ i = 4 := by omega
    rcases this with rfl | rfl | rfl | rfl | rfl <;> rfl
theorem Ex.setNone (h : Ex w B kd n s F gn gk R x) : Ex (w.setCell ⟨kd, 2, none⟩ (.slice none 0 0)) B kd n { s with wr := [] } F gn gk (.slice none 0 0) x :=
  h.setOwn 2 _ rfl rfl rfl ⟨World.ownsRow_nil .., fun y hy => by cases hy⟩ (fun k e => by cases e) h.lft h.wide fun i hi => by
    have : i = 0 ∨ i = 1 ∨ i = 2 ∨ i = 3 ∨ i = 4 := by omega
    rcases this with rfl | rfl | rfl | rfl | rfl <;> rfl

/-- A page is set. -/
theorem Ex.setNow (h : Ex w B kd n s F gn gk R x) (hi : i < n) (hp : p.length = 32) : Ex (w.setCells gn (i * 32) (pg p)) B kd n { s with now := upd s.now i p } F gn gk R x := by
  obtain ⟨k1, k2, k3⟩ := h.kn
  exact ⟨h.row.of_block (blk_sets k1 _ _ _), h.now.set hi hp, h.kept.of_block (blk_sets h.ne.symm _ _ _), h.wr.of_block fun k hk => blk_sets (k3 k hk).2.1 _ _ _, h.ne, h.lft, h.fn, h.fk, h.fr, h.dk, fun b hb => ⟨(h.own b hb).1, by rw [size_sets]; exact (h.own b hb).2⟩, h.small, h.wide⟩
theorem Ex.setKept (h : Ex w B kd n s F gn gk R x) (hi : i < n) (hp : p.length = 32) : Ex (w.setCells gk (i * 32) (pg p)) B kd n { s with kept := upd s.kept i p } F gn gk R x := by
  obtain ⟨k1, k2, k3⟩ := h.kn
  exact ⟨h.row.of_block (blk_sets k2 _ _ _), h.now.of_block (blk_sets h.ne _ _ _), h.kept.set hi hp, h.wr.of_block fun k hk => blk_sets (k3 k hk).2.2 _ _ _, h.ne, h.lft, h.fn, h.fk, h.fr, h.dk, fun b hb => ⟨(h.own b hb).1, by rw [size_sets]; exact (h.own b hb).2⟩, h.small, h.wide⟩
/-- All pages are set. -/
theorem Ex.keptAll (h : Ex w B kd n s F gn gk R x) : Ex (w.setCells gk 0 (flat n s.now)) B kd n { s with kept := s.now } F gn gk R x := by
  obtain ⟨k1, k2, k3⟩ := h.kn
  exact ⟨h.row.of_block (blk_sets k2 _ _ _), h.now.of_block (blk_sets h.ne _ _ _), h.kept.setAll h.now.1, h.wr.of_block fun k hk => blk_sets (k3 k hk).2.2 _ _ _, h.ne, h.lft, h.fn, h.fk, h.fr, h.dk, fun b hb => ⟨(h.own b hb).1, by rw [size_sets]; exact (h.own b hb).2⟩, h.small, h.wide⟩
theorem Ex.nowAll (h : Ex w B kd n s F gn gk R x) : Ex (w.setCells gn 0 (flat n s.kept)) B kd n { s with now := s.kept } F gn gk R x := by
  obtain ⟨k1, k2, k3⟩ := h.kn
  exact ⟨h.row.of_block (blk_sets k1 _ _ _), h.now.setAll h.kept.1, h.kept.of_block (blk_sets h.ne.symm _ _ _), h.wr.of_block fun k hk => blk_sets (k3 k hk).2.1 _ _ _, h.ne, h.lft, h.fn, h.fk, h.fr, h.dk, fun b hb => ⟨(h.own b hb).1, by rw [size_sets]; exact (h.own b hb).2⟩, h.small, h.wide⟩
end

/-- 'copy' of pages. -/
theorem run_copy_many (w : World) (dT sT ty elem : TypeId) (sz b o dLen dCap : Nat) (a : Addr) (sLen sCap : Nat) (cs : List Value)
    (hu : Tryz.prog.underlying dT = some (.slice elem)) (hs : (Tryz.prog.info? elem).map (·.size) = some sz) (hn : cs.length = Nat.min sLen dLen * sz)
    (hsrc : ∀ j v, cs[j]? = some v → w.cell? (a.add j) = some v) (ht : w.there b o cs.length) (h1 : ∀ v ∈ cs, v.oneCell' = true) :
    (Builtin.copy_ #[dT, sT] ty #[.slice (some ⟨b, o, none⟩) dLen dCap, .slice (some a) sLen sCap]).run Tryz.prog w = .ok (goInt (Nat.min sLen dLen)) (w.setCells b o cs) := by
  have hl := run_loadCells_list (P := Tryz.prog) w a cs hsrc
  have hst := run_storeCells_cells (P := Tryz.prog) b o cs 0 w (fun j hj => by simpa using (ht j hj).1) (fun j hj => by simpa using (ht j hj).2) h1
  cases hq : Tryz.prog.info? elem with
  | none => simp [hq] at hs
  | some i =>
    have hi : i.size = sz := by simpa [hq] using hs
    simp [Builtin.copy_, run_underlying hu, Builtin.lenOf, Builtin.firstCells, sizeOf, typeInfo, hq, hi, ← hn, hl, hst]

/-- One more step. -/
theorem Lft.zero {y : Int} (h : Lft x y) : x = 0 ↔ y = 0 := by unfold Lft at h; omega
theorem Lft.pos {y : Int} (h : Lft x y) : 0 < x ↔ 0 < y := by unfold Lft at h; omega

set_option maxRecDepth 100000 in
set_option maxHeartbeats 1000000 in
theorem l_step (h : Ex w B kd n s F gn gk R x) :
    Calls Tryz.prog 129 #[.pointer (some ⟨kd, 0, none⟩)] w fun e w' => ((e = .returned (.iface 66 (.int .i64 8)) ∧ Off s ∧ Ex w' B kd n (fall s) F gn gk R x) ∨ (e = .returned .nilIface ∧ ¬ Off s ∧ ∃ x', Ex w' B kd n (less s) F gn gk R x')) ∧ Turn F w w' := by
  have c3 := h.cell3
  have c4 := h.cell4
  have z3 := h.free 3
  have z4 := h.free 4
  have HR : Hid (Ex w B kd n s F gn gk R x) := h
  obtain ⟨kept, now, wr, left, down⟩ := s
  have HL : Hid (Lft x left) := h.lft
  have HW : Hid (-9223372036854775808 ≤ x ∧ x ≤ 9223372036854775807) := h.wide
  clear h
  dsimp only at c3 c4
  by_cases h0 : x = 0
  · subst h0
    have HO : Hid (Off (⟨kept, now, wr, left, down⟩ : St)) := Or.inr (HL.out.zero.1 rfl)
    go_enter Tryz.func129, Tryz.ntmps129
    go_wp2_with fail
    go_ret
    exact ⟨Or.inl ⟨rfl, HO.out, HR.out.setDown true⟩, turn_set HR.out.dk _⟩
  · have t0 : (x == (0 : Int)) = false := by rw [beq_eq_false_iff_ne]; exact h0
    cases down with
    | true =>
      go_enter Tryz.func129, Tryz.ntmps129
      go_wp2_with fail
      go_ret
      exact ⟨Or.inl ⟨rfl, Or.inl rfl, HR.out⟩, Turn.refl _⟩
    | false =>
      have HO : Hid (¬ Off (⟨kept, now, wr, left, false⟩ : St)) := show ¬ Off _ from fun q => by
        rcases q with q | q
        · cases q
        · exact h0 (HL.out.zero.2 q)
      by_cases h1 : 0 < x
      · have w1 : IntKind.i64.wrap (x - 1) = x - 1 := by rw [IntKind.wrap_i64]; have := HW.out; omega
        have HX : Hid (0 < x) := h1
        go_enter Tryz.func129, Tryz.ntmps129
        go_wp2_with fail
        go_ret
        have hx : -9223372036854775808 ≤ x - 1 ∧ x - 1 ≤ 9223372036854775807 := by have := HW.out; have := HX.out; omega
        have hp := HL.out.pos.1 HX.out
        have hl : less (⟨kept, now, wr, left, false⟩ : St) = ⟨kept, now, wr, left - 1, false⟩ := by unfold less; rw [if_pos hp]
        have hlf : Lft (x - 1) (left - 1) := by have := HL.out; have := HX.out; unfold Lft at *; omega
        exact ⟨Or.inr ⟨rfl, HO.out, _, by rw [hl]; exact HR.out.setLeft hlf hx⟩, turn_set HR.out.dk _⟩
      · have HX : Hid (¬ 0 < x) := h1
        go_enter Tryz.func129, Tryz.ntmps129
        go_wp2_with fail
        go_ret
        have hp : ¬ 0 < left := fun q => absurd (HL.out.pos.2 q) (by have := HX.out; omega)
        have hl : less (⟨kept, now, wr, left, false⟩ : St) = ⟨kept, now, wr, left, false⟩ := by unfold less; rw [if_neg hp]
        exact ⟨Or.inr ⟨rfl, HO.out, x, by rw [hl]; exact HR.out⟩, Turn.refl _⟩

set_option maxRecDepth 100000 in
set_option maxHeartbeats 1000000 in
/-- Is there such a page? -/
theorem l_has (h : Ex w B kd n s F gn gk R x) (k : Int) :
    Calls Tryz.prog 128 #[.pointer (some ⟨kd, 0, none⟩), .int .i64 k] w fun e w' => e = .returned (.bool (decide (0 ≤ k ∧ k < (n : Int)))) ∧ w' = w := by
  have c0 := h.cell0
  clear h
  by_cases h0 : 0 ≤ k
  · by_cases h1 : k < (n : Int)
    · rw [decide_eq_true ⟨h0, h1⟩]
      go_enter Tryz.func128, Tryz.ntmps128
      go_wp2_with fail
      go_ret
      exact ⟨rfl, rfl⟩
    · rw [decide_eq_false (fun q => h1 q.2)]
      go_enter Tryz.func128, Tryz.ntmps128
      go_wp2_with fail
      go_ret
      exact ⟨rfl, rfl⟩
  · rw [decide_eq_false (fun q => h0 q.1)]
    go_enter Tryz.func128, Tryz.ntmps128
    go_wp2_with fail
    go_ret
    exact ⟨rfl, rfl⟩

set_option maxRecDepth 100000 in
set_option maxHeartbeats 1000000 in
theorem l_pages (h : Ex w B kd n s F gn gk R x) : Calls Tryz.prog 67 #[.pointer (some ⟨kd, 0, none⟩)] w fun e w' => e = .returned (.int .i64 (n : Nat)) ∧ w' = w := by
  have c0 := h.cell0
  clear h
  go_enter Tryz.func67, Tryz.ntmps67
  go_wp2_with fail
  go_ret
  exact ⟨rfl, rfl⟩

end Go.Proofs.YtcfemppdeidjmadGreat.Dk.L
