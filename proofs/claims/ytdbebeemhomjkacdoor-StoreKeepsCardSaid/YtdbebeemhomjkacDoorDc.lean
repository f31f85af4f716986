/-
  What package disk is to answer: its calls, by what a disk's state is and which blocks it stands on.
-/
import Derived.Test.YtdbebeemhomjkacDoorDb
import Derived.Deep.RegionHeld3
import Derived.WalkKit
import Derived.WalkLawsBesides
import Derived.WalkSpells
import Derived.Stop.Asserts
import Derived.LaidEql
namespace Go.Proofs.YtdbebeemhomjkacDoor.Dk
open Go.RowKit Go.Deep
open Go.RowKit (Below)
set_option linter.unusedVariables false

variable {w w' w'' : World} {F F' : Nat → Prop}

/-- Nothing but these blocks has turned. -/
structure Turn (F : Nat → Prop) (w w' : World) : Prop where
  os : w'.os = w.os
  tape : w'.tape = w.tape
  output : w'.output = w.output
  size : w.heap.size ≤ w'.heap.size
  block : ∀ k, k < w.heap.size → ¬ F k → w'.heap[k]? = w.heap[k]?

theorem Turn.of_below (h : Below w.heap.size w w') : Turn F w w' := ⟨h.os, h.tape, h.output, h.size, fun k hk _ => h.block k hk⟩
theorem Turn.refl (w : World) : Turn F w w := ⟨rfl, rfl, rfl, Nat.le_refl _, fun _ _ _ => rfl⟩
theorem Turn.trans (h : Turn F w w') (h' : Turn F w' w'') : Turn F w w'' :=
  ⟨h'.os.trans h.os, h'.tape.trans h.tape, h'.output.trans h.output, Nat.le_trans h.size h'.size, fun k hk hn => (h'.block k (Nat.lt_of_lt_of_le hk h.size) hn).trans (h.block k hk hn)⟩
theorem Turn.mono (h : Turn F w w') (hF : ∀ k, k < w.heap.size → F k → F' k) : Turn F' w w' := ⟨h.os, h.tape, h.output, h.size, fun k hk hn => h.block k hk fun q => hn (hF k hk q)⟩
theorem Turn.below {base : Nat} {w0 : World} (h : Turn F w w') (hb : Below base w0 w) (hs : base ≤ w.heap.size) (hF : ∀ k, F k → base ≤ k) : Below base w0 w' :=
  hb.trans ⟨h.os, h.tape, h.output, h.size, fun k hk => h.block k (Nat.lt_of_lt_of_le hk hs) fun q => by have := hF k q; omega⟩
theorem Turn.cell (h : Turn F w w') {b o : Nat} {v : Value} (hb : ¬ F b) (hc : w.cell? ⟨b, o, none⟩ = some v) : w'.cell? ⟨b, o, none⟩ = some v :=
  (World.cell?_of_block (w := w) (a := ⟨b, o, none⟩) (h.block b (World.block_lt_of_cell? _ _ hc) hb)).trans hc

/-- An error by its number. -/
def Er (v : Value) (x : Int) : Prop := (v = .nilIface ∧ x = 0) ∨ (v = .iface 39 (.int .i64 x) ∧ x ≠ 0)

/-- How Write ends, and what state it leaves. -/
def Writes (n : Nat) (s : St) (at_ : Int) (l : List UInt8) (x : Int) (s' : St) : Prop :=
  ((at_ < 0 ∨ (n : Int) ≤ at_) ∧ x = 1 ∧ s' = s) ∨ ((0 ≤ at_ ∧ at_ < n) ∧ 32 < l.length ∧ x = 3 ∧ s' = s) ∨
  ((0 ≤ at_ ∧ at_ < n) ∧ l.length ≤ 32 ∧ Off s ∧ x = 8 ∧ s' = fall s) ∨ ((0 ≤ at_ ∧ at_ < n) ∧ l.length ≤ 32 ∧ ¬ Off s ∧ x = 0 ∧ s' = wrote s at_.toNat (pad l))
def Syncs (s : St) (x : Int) (s' : St) : Prop := (Off s ∧ x = 8 ∧ s' = fall s) ∨ (¬ Off s ∧ x = 0 ∧ s' = synced s)

/-- Is it among the numbers? -/
def among (m : Nat) (f : Nat → Int) (i : Nat) : Bool := (List.range m).any fun k => decide (f k = (i : Int))
theorem among_iff {m : Nat} {f : Nat → Int} {i : Nat} : among m f i = true ↔ ∃ k, k < m ∧ f k = (i : Int) := by
  simp [among]

/-- A disk in memory: the world, where the call's own blocks begin, the pointer, how many pages, its state, the blocks that it stands on. -/
abbrev Face := World → Nat → Value → Nat → St → (Nat → Prop) → Prop

/-- What package disk is to answer. -/
structure DiskOk (D : Face) : Prop where
  keep : ∀ {w w' : World} {base n : Nat} {d : Value} {s : St} {F : Nat → Prop}, D w base d n s F → w.heap.size ≤ w'.heap.size → (∀ b, F b → w'.heap[b]? = w.heap[b]?) → D w' base d n s F
  own : ∀ {w : World} {base n : Nat} {d : Value} {s : St} {F : Nat → Prop}, D w base d n s F → ∀ b, F b → base ≤ b ∧ b < w.heap.size
  new_no : ∀ {w : World} (k : Int), k < 1 ∨ 80 < k → Calls Tryd.prog 13 #[.int .i64 k] w fun e w' => e = .returned (.tuple #[.pointer none, .iface 39 (.int .i64 1)]) ∧ Below w.heap.size w w'
  new_ok : ∀ {w : World} (n : Nat), 1 ≤ n → n ≤ 80 → Calls Tryd.prog 13 #[.int .i64 (n : Nat)] w fun e w' => ∃ d F, e = .returned (.tuple #[d, .nilIface]) ∧ D w' w.heap.size d n fresh F ∧ Below w.heap.size w w'
  write : ∀ {w : World} {base n : Nat} {d : Value} {s : St} {F : Nat → Prop} {a : Option Addr} {l : List UInt8} {c : Nat} (k : Int), D w base d n s F → base ≤ w.heap.size → BtAt w a l → l.length ≤ c → c ≤ maxLen → (l ≠ [] → ∀ b o, a = some ⟨b, o, none⟩ → ¬ F b) → (a = none → c = 0) → s.wr.length ≤ 1000 →
    Calls Tryd.prog 17 #[d, .int .i64 k, .slice a l.length c] w fun e w' => ∃ v x s' F', e = .returned v ∧ Er v x ∧ Writes n s k l x s' ∧ D w' base d n s' F' ∧ (∀ b, F' b → F b ∨ w.heap.size ≤ b) ∧ Turn F w w'
  sync : ∀ {w : World} {base n : Nat} {d : Value} {s : St} {F : Nat → Prop}, D w base d n s F → base ≤ w.heap.size →
    Calls Tryd.prog 19 #[d] w fun e w' => ∃ v x s' F', e = .returned v ∧ Er v x ∧ Syncs s x s' ∧ D w' base d n s' F' ∧ (∀ b, F' b → F b ∨ w.heap.size ≤ b) ∧ Turn F w w'
  crash : ∀ {w : World} {base n : Nat} {d : Value} {s : St} {F : Nat → Prop} {a : Option Addr} {m c : Nat} {f : Nat → Int}, D w base d n s F → base ≤ w.heap.size → NumAt w a m f → m ≤ c → c ≤ maxLen → (0 < m → ∀ b o, a = some ⟨b, o, none⟩ → ¬ F b) → s.wr.length ≤ 1000 →
    Calls Tryd.prog 21 #[d, .slice a m c] w fun e w' => ∃ F', e = .returned (.tuple #[]) ∧ D w' base d n (crashed s (among m f)) F' ∧ (∀ b, F' b → F b ∨ w.heap.size ≤ b) ∧ Turn F w w'
  read_ok : ∀ {w : World} {base n : Nat} {d : Value} {s : St} {F : Nat → Prop} (i : Nat), D w base d n s F → base ≤ w.heap.size → i < n →
    Calls Tryd.prog 23 #[d, .int .i64 (i : Nat)] w fun e w' => ∃ k c, e = .returned (.tuple #[.slice (some ⟨k, 0, none⟩) 32 c, .nilIface]) ∧ (s.now i).length = 32 ∧ BtAt w' (some ⟨k, 0, none⟩) (s.now i) ∧ w.heap.size ≤ k ∧ Below w.heap.size w w'
  read_32 : ∀ {w : World} {base n : Nat} {d : Value} {s : St} {F : Nat → Prop} (i : Nat), D w base d n s F → base ≤ w.heap.size → i < n →
    Calls Tryd.prog 23 #[d, .int .i64 (i : Nat)] w fun e w' => ∃ k, e = .returned (.tuple #[.slice (some ⟨k, 0, none⟩) 32 32, .nilIface]) ∧ (s.now i).length = 32 ∧ BtAt w' (some ⟨k, 0, none⟩) (s.now i) ∧ w.heap.size ≤ k ∧ Below w.heap.size w w'
  read_no : ∀ {w : World} {base n : Nat} {d : Value} {s : St} {F : Nat → Prop} (i : Int), D w base d n s F → i < 0 ∨ (n : Int) ≤ i →
    Calls Tryd.prog 23 #[d, .int .i64 i] w fun e w' => e = .returned (.tuple #[.slice none 0 0, .iface 39 (.int .i64 1)]) ∧ Below w.heap.size w w'
  fail : ∀ {w : World} {base n : Nat} {d : Value} {s : St} {F : Nat → Prop} (k : Int), D w base d n s F → base ≤ w.heap.size → -9223372036854775808 ≤ k ∧ k ≤ 9223372036854775807 →
    Calls Tryd.prog 20 #[d, .int .i64 k] w fun e w' => e = .returned (.tuple #[]) ∧ D w' base d n (failing s k) F ∧ Turn F w w'
  pages : ∀ {w : World} {base n : Nat} {d : Value} {s : St} {F : Nat → Prop}, D w base d n s F → Calls Tryd.prog 14 #[d] w fun e w' => e = .returned (.int .i64 (n : Nat)) ∧ Below w.heap.size w w'

end Go.Proofs.YtdbebeemhomjkacDoor.Dk
