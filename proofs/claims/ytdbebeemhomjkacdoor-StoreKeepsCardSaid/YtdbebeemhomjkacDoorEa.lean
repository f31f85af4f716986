/-
  What package store, and the disk under it, are to answer to StoreKeeps.
-/
import Derived.Test.YtdbebeemhomjkacDoorDc
namespace Go.Proofs.YtdbebeemhomjkacDoor.Sk
open Go.RowKit Go.Deep Go.Proofs.YtdbebeemhomjkacDoor.Dk
open Go.RowKit (Below)
set_option linter.unusedVariables false

variable {w w' : World} {F F' : Nat → Prop}

/-- A store on a disk in memory, each with the world, where the call's own blocks begin, the disk, how many pages it has, and the blocks that all of it stands on: a disk as it is made; one that keeps something, of which no store is asked any more; an open store, what it keeps, its turn, and how many calls are left ahead of the power's going off; a store whose power went off while something was being saved. -/
structure Face where
  raw : World → Nat → Value → Nat → (Nat → Prop) → Prop
  kept : World → Nat → Value → Nat → List UInt8 → Nat → (Nat → Prop) → Prop
  on : World → Nat → Value → Nat → Value → List UInt8 → Nat → Option Nat → (Nat → Prop) → Prop
  off : World → Nat → Value → Nat → Value → List UInt8 → Nat → List UInt8 → (Nat → Prop) → Prop

/-- What is left when so many are given. -/
def given (k : Int) : Option Nat := if k < 0 then none else some k.toNat

/-- How a call ends that turns blocks of the store's alone, or new ones. -/
def Stands (w : World) (F : Nat → Prop) (w' : World) (F' : Nat → Prop) : Prop := (∀ b, F' b → F b ∨ w.heap.size ≤ b) ∧ Turn F w w'

/-- What packages store and disk are to answer. -/
structure StoreOk (D : Face) : Prop where
  raw_keep : ∀ {w w' : World} {base n : Nat} {d : Value} {F : Nat → Prop}, D.raw w base d n F → w.heap.size ≤ w'.heap.size → (∀ b, F b → w'.heap[b]? = w.heap[b]?) → D.raw w' base d n F
  kept_keep : ∀ {w w' : World} {base n t : Nat} {d : Value} {l : List UInt8} {F : Nat → Prop}, D.kept w base d n l t F → w.heap.size ≤ w'.heap.size → (∀ b, F b → w'.heap[b]? = w.heap[b]?) → D.kept w' base d n l t F
  on_keep : ∀ {w w' : World} {base n t : Nat} {d s : Value} {l : List UInt8} {g : Option Nat} {F : Nat → Prop}, D.on w base d n s l t g F → w.heap.size ≤ w'.heap.size → (∀ b, F b → w'.heap[b]? = w.heap[b]?) → D.on w' base d n s l t g F
  off_keep : ∀ {w w' : World} {base n t : Nat} {d s : Value} {l x : List UInt8} {F : Nat → Prop}, D.off w base d n s l t x F → w.heap.size ≤ w'.heap.size → (∀ b, F b → w'.heap[b]? = w.heap[b]?) → D.off w' base d n s l t x F
  raw_own : ∀ {w : World} {base n : Nat} {d : Value} {F : Nat → Prop}, D.raw w base d n F → ∀ b, F b → base ≤ b ∧ b < w.heap.size
  kept_own : ∀ {w : World} {base n t : Nat} {d : Value} {l : List UInt8} {F : Nat → Prop}, D.kept w base d n l t F → ∀ b, F b → base ≤ b ∧ b < w.heap.size
  on_own : ∀ {w : World} {base n t : Nat} {d s : Value} {l : List UInt8} {g : Option Nat} {F : Nat → Prop}, D.on w base d n s l t g F → ∀ b, F b → base ≤ b ∧ b < w.heap.size
  off_own : ∀ {w : World} {base n t : Nat} {d s : Value} {l x : List UInt8} {F : Nat → Prop}, D.off w base d n s l t x F → ∀ b, F b → base ≤ b ∧ b < w.heap.size
  new_no : ∀ {w : World} (k : Int), k < 1 ∨ 80 < k → Calls Tryd.prog 13 #[.int .i64 k] w fun e w' => e = .returned (.tuple #[.pointer none, .iface 39 (.int .i64 1)]) ∧ Below w.heap.size w w'
  new_ok : ∀ {w : World} (n : Nat), 1 ≤ n → n ≤ 80 → Calls Tryd.prog 13 #[.int .i64 (n : Nat)] w fun e w' => ∃ d F, e = .returned (.tuple #[d, .nilIface]) ∧ D.raw w' w.heap.size d n F ∧ Below w.heap.size w w'
  open_no : ∀ {w : World} {base n : Nat} {d : Value} {F : Nat → Prop}, D.raw w base d n F → base ≤ w.heap.size → Calls Tryd.prog 25 #[d] w fun e w' => ∃ v, e = .returned (.tuple #[v, .iface 39 (.int .i64 5)]) ∧ Below w.heap.size w w'
  format_no : ∀ {w : World} {base n : Nat} {d : Value} {F : Nat → Prop}, D.raw w base d n F → base ≤ w.heap.size → n < 62 → Calls Tryd.prog 24 #[d] w fun e w' => e = .returned (.iface 39 (.int .i64 3)) ∧ Below w.heap.size w w'
  format_ok : ∀ {w : World} {base n : Nat} {d : Value} {F : Nat → Prop}, D.raw w base d n F → base ≤ w.heap.size → 62 ≤ n → Calls Tryd.prog 24 #[d] w fun e w' => ∃ F', e = .returned .nilIface ∧ D.kept w' base d n [] 0 F' ∧ Stands w F w' F'
  open_ok : ∀ {w : World} {base n t : Nat} {d : Value} {l : List UInt8} {F : Nat → Prop}, D.kept w base d n l t F → base ≤ w.heap.size → l.length ≤ 960 → t ≤ 1000 → Calls Tryd.prog 25 #[d] w fun e w' => ∃ s F', e = .returned (.tuple #[s, .nilIface]) ∧ D.on w' base d n s l t none F' ∧ Stands w F w' F'
  save_full : ∀ {w : World} {base n t : Nat} {d s : Value} {l : List UInt8} {g : Option Nat} {F : Nat → Prop} {a : Option Addr} {x : List UInt8} {c : Nat}, D.on w base d n s l t g F → base ≤ w.heap.size → BtAt w a x → x.length ≤ c → c ≤ maxLen → 960 < x.length →
    Calls Tryd.prog 26 #[s, .slice a x.length c] w fun e w' => ∃ F', e = .returned (.iface 39 (.int .i64 3)) ∧ D.on w' base d n s l t g F' ∧ Stands w F w' F'
  save : ∀ {w : World} {base n t : Nat} {d s : Value} {l : List UInt8} {g : Option Nat} {F : Nat → Prop} {a : Option Addr} {x : List UInt8} {c : Nat}, D.on w base d n s l t g F → base ≤ w.heap.size → BtAt w a x → x.length ≤ c → c ≤ maxLen → (a = none → c = 0) → (x ≠ [] → ∀ b o, a = some ⟨b, o, none⟩ → ¬ F b) → x.length ≤ 960 → l.length ≤ 960 → t ≤ 1000 →
    Calls Tryd.prog 26 #[s, .slice a x.length c] w fun e w' => ∃ F', ((∃ g', e = .returned .nilIface ∧ D.on w' base d n s x (t + 1) g' F' ∧ (g = none → g' = none)) ∨ (e = .returned (.iface 39 (.int .i64 8)) ∧ g ≠ none ∧ D.off w' base d n s l t x F')) ∧ Stands w F w' F'
  save_off : ∀ {w : World} {base n t : Nat} {d s : Value} {l x : List UInt8} {F : Nat → Prop}, D.off w base d n s l t x F → base ≤ w.heap.size → Calls Tryd.prog 26 #[s, .slice none 0 0] w fun e w' => ∃ F', e = .returned (.iface 39 (.int .i64 8)) ∧ D.off w' base d n s l t x F' ∧ Stands w F w' F'
  load_on : ∀ {w : World} {base n t : Nat} {d s : Value} {l : List UInt8} {g : Option Nat} {F : Nat → Prop}, D.on w base d n s l t g F → base ≤ w.heap.size → Calls Tryd.prog 27 #[s] w fun e w' => ∃ a c, e = .returned (.slice a l.length c) ∧ BtAt w' a l ∧ Below w.heap.size w w'
  load_off : ∀ {w : World} {base n t : Nat} {d s : Value} {l x : List UInt8} {F : Nat → Prop}, D.off w base d n s l t x F → base ≤ w.heap.size → Calls Tryd.prog 27 #[s] w fun e w' => ∃ a c, e = .returned (.slice a l.length c) ∧ BtAt w' a l ∧ Below w.heap.size w w'
  turn_on : ∀ {w : World} {base n t : Nat} {d s : Value} {l : List UInt8} {g : Option Nat} {F : Nat → Prop}, D.on w base d n s l t g F → base ≤ w.heap.size → Calls Tryd.prog 28 #[s] w fun e w' => e = .returned (.int .i64 (t : Nat)) ∧ Below w.heap.size w w'
  turn_off : ∀ {w : World} {base n t : Nat} {d s : Value} {l x : List UInt8} {F : Nat → Prop}, D.off w base d n s l t x F → base ≤ w.heap.size → Calls Tryd.prog 28 #[s] w fun e w' => e = .returned (.int .i64 (t : Nat)) ∧ Below w.heap.size w w'
  fail : ∀ {w : World} {base n t : Nat} {d s : Value} {l : List UInt8} {g : Option Nat} {F : Nat → Prop} (k : Int), D.on w base d n s l t g F → base ≤ w.heap.size → -9223372036854775808 ≤ k ∧ k ≤ 9223372036854775807 →
    Calls Tryd.prog 20 #[d, .int .i64 k] w fun e w' => ∃ F', e = .returned (.tuple #[]) ∧ D.on w' base d n s l t (given k) F' ∧ Stands w F w' F'
  crash_on : ∀ {w : World} {base n t : Nat} {d s : Value} {l : List UInt8} {g : Option Nat} {F : Nat → Prop} {a : Option Addr} {m c : Nat} {f : Nat → Int}, D.on w base d n s l t g F → base ≤ w.heap.size → NumAt w a m f → m ≤ c → c ≤ maxLen → (0 < m → ∀ b o, a = some ⟨b, o, none⟩ → ¬ F b) →
    Calls Tryd.prog 21 #[d, .slice a m c] w fun e w' => ∃ F', e = .returned (.tuple #[]) ∧ D.kept w' base d n l t F' ∧ Stands w F w' F'
  crash_off : ∀ {w : World} {base n t : Nat} {d s : Value} {l x : List UInt8} {F : Nat → Prop} {a : Option Addr} {m c : Nat} {f : Nat → Int}, D.off w base d n s l t x F → base ≤ w.heap.size → NumAt w a m f → m ≤ c → c ≤ maxLen → (0 < m → ∀ b o, a = some ⟨b, o, none⟩ → ¬ F b) →
    Calls Tryd.prog 21 #[d, .slice a m c] w fun e w' => ∃ F', e = .returned (.tuple #[]) ∧ (D.kept w' base d n l t F' ∨ D.kept w' base d n x (t + 1) F') ∧ Stands w F w' F'

end Go.Proofs.YtdbebeemhomjkacDoor.Sk
