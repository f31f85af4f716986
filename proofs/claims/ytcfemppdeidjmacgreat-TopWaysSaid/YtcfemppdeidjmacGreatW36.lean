/-
  Dc Ea Dd Eb Yc Yd Yk Yo
-/
import Derived.Deep.RegionHeld3
import Derived.WalkKit
import Derived.WalkLawsBesides
import Derived.WalkSpells
import Derived.Stop.Asserts
import Derived.LaidEql
import Derived.Test.YtcfemppdeidjmacGreatW35
import Derived.Laws.IdiomStrings
import Derived.Test.YtcfemppdeidjmacGreatW18
import Derived.Test.YtcfemppdeidjmacGreatW16
namespace Go.Proofs.YtcfemppdeidjmacGreat.Dk
open Go.RowKit Go.Deep
open Go.RowKit (Below)
set_option linter.unusedVariables false

variable {w w' w'' : World} {F F' : Nat → Prop}

structure Turn (F : Nat → Prop) (w w' : World) : Prop where
  os : w'.os = w.os
  tape : w'.tape = w.tape
  output : w'.output = w.output
  size : w.heap.size ≤ w'.heap.size
  block : ∀ k, k < w.heap.size → ¬ F k → w'.heap[k]? = w.heap[k]?

theorem Turn.of_below (h : Below w.heap.size w w') : Turn F w w' := ⟨h.os, h.tape, h.output, h.size, fun k hk _ => h.block k hk⟩
theorem Turn.refl (w : World) : Turn F w w := ⟨rfl, rfl, rfl, Nat.le_refl _, fun _ _ _ => rfl⟩
theorem Turn.trans (h : Turn F w w') (h' : Turn F w' w'') : Turn F w w'' :=
  ⟨h'.os.trans h.os, h'.tape.trans h.tape, h'.output.trans h.output, Nat.le_trans h.size h'.size, fun k hk hn => (h'.block k (Nat.lt_of_lt_of_le hk h.size) hn).trans (h.block k hk hn)⟩
theorem Turn.mono (h : Turn F w w') (hF : ∀ k, k < w.heap.size → F k → F' k) : Turn F' w w' := ⟨h.os, h.tape, h.output, h.size, fun k hk hn => h.block k hk fun q => hn (hF k hk q)⟩
theorem Turn.below {base : Nat} {w0 : World} (h : Turn F w w') (hb : Below base w0 w) (hs : base ≤ w.heap.size) (hF : ∀ k, F k → base ≤ k) : Below base w0 w' :=
  hb.trans ⟨h.os, h.tape, h.output, h.size, fun k hk => h.block k (Nat.lt_of_lt_of_le hk hs) fun q => by have := hF k q; omega⟩
theorem Turn.cell (h : Turn F w w') {b o : Nat} {v : Value} (hb : ¬ F b) (hc : w.cell? ⟨b, o, none⟩ = some v) : w'.cell? ⟨b, o, none⟩ = some v :=
  (World.cell?_of_block (w := w) (a := ⟨b, o, none⟩) (h.block b (World.block_lt_of_cell? _ _ hc) hb)).trans hc

def Er (v : Value) (x : Int) : Prop := (v = .nilIface ∧ x = 0) ∨ (v = .iface 102 (.int .i64 x) ∧ x ≠ 0)

def Writes (n : Nat) (s : St) (at_ : Int) (l : List UInt8) (x : Int) (s' : St) : Prop :=
  ((at_ < 0 ∨ (n : Int) ≤ at_) ∧ x = 1 ∧ s' = s) ∨ ((0 ≤ at_ ∧ at_ < n) ∧ 32 < l.length ∧ x = 3 ∧ s' = s) ∨
  ((0 ≤ at_ ∧ at_ < n) ∧ l.length ≤ 32 ∧ Off s ∧ x = 8 ∧ s' = fall s) ∨ ((0 ≤ at_ ∧ at_ < n) ∧ l.length ≤ 32 ∧ ¬ Off s ∧ x = 0 ∧ s' = wrote s at_.toNat (pad l))
def Syncs (s : St) (x : Int) (s' : St) : Prop := (Off s ∧ x = 8 ∧ s' = fall s) ∨ (¬ Off s ∧ x = 0 ∧ s' = synced s)

def among (m : Nat) (f : Nat → Int) (i : Nat) : Bool := (List.range m).any fun k => decide (f k = (i : Int))
abbrev Face := World → Nat → Value → Nat → St → (Nat → Prop) → Prop

structure DiskOk (D : Face) : Prop where
  keep : ∀ {w w' : World} {base n : Nat} {d : Value} {s : St} {F : Nat → Prop}, D w base d n s F → w.heap.size ≤ w'.heap.size → (∀ b, F b → w'.heap[b]? = w.heap[b]?) → D w' base d n s F
  own : ∀ {w : World} {base n : Nat} {d : Value} {s : St} {F : Nat → Prop}, D w base d n s F → ∀ b, F b → base ≤ b ∧ b < w.heap.size
  new_no : ∀ {w : World} (k : Int), k < 1 ∨ 80 < k → Calls Tryz.prog 34 #[.int .i64 k] w fun e w' => e = .returned (.tuple #[.pointer none, .iface 102 (.int .i64 1)]) ∧ Below w.heap.size w w'
  new_ok : ∀ {w : World} (n : Nat), 1 ≤ n → n ≤ 80 → Calls Tryz.prog 34 #[.int .i64 (n : Nat)] w fun e w' => ∃ d F, e = .returned (.tuple #[d, .nilIface]) ∧ D w' w.heap.size d n fresh F ∧ Below w.heap.size w w'
  write : ∀ {w : World} {base n : Nat} {d : Value} {s : St} {F : Nat → Prop} {a : Option Addr} {l : List UInt8} {c : Nat} (k : Int), D w base d n s F → base ≤ w.heap.size → BtAt w a l → l.length ≤ c → c ≤ maxLen → (l ≠ [] → ∀ b o, a = some ⟨b, o, none⟩ → ¬ F b) → (a = none → c = 0) → s.wr.length ≤ 1000 →
    Calls Tryz.prog 164 #[d, .int .i64 k, .slice a l.length c] w fun e w' => ∃ v x s' F', e = .returned v ∧ Er v x ∧ Writes n s k l x s' ∧ D w' base d n s' F' ∧ (∀ b, F' b → F b ∨ w.heap.size ≤ b) ∧ Turn F w w'
  sync : ∀ {w : World} {base n : Nat} {d : Value} {s : St} {F : Nat → Prop}, D w base d n s F → base ≤ w.heap.size →
    Calls Tryz.prog 166 #[d] w fun e w' => ∃ v x s' F', e = .returned v ∧ Er v x ∧ Syncs s x s' ∧ D w' base d n s' F' ∧ (∀ b, F' b → F b ∨ w.heap.size ≤ b) ∧ Turn F w w'
  crash : ∀ {w : World} {base n : Nat} {d : Value} {s : St} {F : Nat → Prop} {a : Option Addr} {m c : Nat} {f : Nat → Int}, D w base d n s F → base ≤ w.heap.size → NumAt w a m f → m ≤ c → c ≤ maxLen → (0 < m → ∀ b o, a = some ⟨b, o, none⟩ → ¬ F b) → s.wr.length ≤ 1000 →
    Calls Tryz.prog 39 #[d, .slice a m c] w fun e w' => ∃ F', e = .returned (.tuple #[]) ∧ D w' base d n (crashed s (among m f)) F' ∧ (∀ b, F' b → F b ∨ w.heap.size ≤ b) ∧ Turn F w w'
  read_ok : ∀ {w : World} {base n : Nat} {d : Value} {s : St} {F : Nat → Prop} (i : Nat), D w base d n s F → base ≤ w.heap.size → i < n →
    Calls Tryz.prog 167 #[d, .int .i64 (i : Nat)] w fun e w' => ∃ k c, e = .returned (.tuple #[.slice (some ⟨k, 0, none⟩) 32 c, .nilIface]) ∧ (s.now i).length = 32 ∧ BtAt w' (some ⟨k, 0, none⟩) (s.now i) ∧ w.heap.size ≤ k ∧ Below w.heap.size w w'
  read_32 : ∀ {w : World} {base n : Nat} {d : Value} {s : St} {F : Nat → Prop} (i : Nat), D w base d n s F → base ≤ w.heap.size → i < n →
    Calls Tryz.prog 167 #[d, .int .i64 (i : Nat)] w fun e w' => ∃ k, e = .returned (.tuple #[.slice (some ⟨k, 0, none⟩) 32 32, .nilIface]) ∧ (s.now i).length = 32 ∧ BtAt w' (some ⟨k, 0, none⟩) (s.now i) ∧ w.heap.size ≤ k ∧ Below w.heap.size w w'
  pages : ∀ {w : World} {base n : Nat} {d : Value} {s : St} {F : Nat → Prop}, D w base d n s F → Calls Tryz.prog 114 #[d] w fun e w' => e = .returned (.int .i64 (n : Nat)) ∧ Below w.heap.size w w'

end Go.Proofs.YtcfemppdeidjmacGreat.Dk

namespace Go.Proofs.YtcfemppdeidjmacGreat.Sk
open Go.RowKit Go.Deep Go.Proofs.YtcfemppdeidjmacGreat.Dk
open Go.RowKit (Below)
set_option linter.unusedVariables false

variable {w w' : World} {F F' : Nat → Prop}

structure Face where
  raw : World → Nat → Value → Nat → (Nat → Prop) → Prop
  kept : World → Nat → Value → Nat → List UInt8 → Nat → (Nat → Prop) → Prop
  on : World → Nat → Value → Nat → Value → List UInt8 → Nat → Option Nat → (Nat → Prop) → Prop
  off : World → Nat → Value → Nat → Value → List UInt8 → Nat → List UInt8 → (Nat → Prop) → Prop

def given (k : Int) : Option Nat := if k < 0 then none else some k.toNat

def Stands (w : World) (F : Nat → Prop) (w' : World) (F' : Nat → Prop) : Prop := (∀ b, F' b → F b ∨ w.heap.size ≤ b) ∧ Turn F w w'

structure StoreOk (D : Face) : Prop where
  raw_keep : ∀ {w w' : World} {base n : Nat} {d : Value} {F : Nat → Prop}, D.raw w base d n F → w.heap.size ≤ w'.heap.size → (∀ b, F b → w'.heap[b]? = w.heap[b]?) → D.raw w' base d n F
  kept_keep : ∀ {w w' : World} {base n t : Nat} {d : Value} {l : List UInt8} {F : Nat → Prop}, D.kept w base d n l t F → w.heap.size ≤ w'.heap.size → (∀ b, F b → w'.heap[b]? = w.heap[b]?) → D.kept w' base d n l t F
  on_keep : ∀ {w w' : World} {base n t : Nat} {d s : Value} {l : List UInt8} {g : Option Nat} {F : Nat → Prop}, D.on w base d n s l t g F → w.heap.size ≤ w'.heap.size → (∀ b, F b → w'.heap[b]? = w.heap[b]?) → D.on w' base d n s l t g F
  off_keep : ∀ {w w' : World} {base n t : Nat} {d s : Value} {l x : List UInt8} {F : Nat → Prop}, D.off w base d n s l t x F → w.heap.size ≤ w'.heap.size → (∀ b, F b → w'.heap[b]? = w.heap[b]?) → D.off w' base d n s l t x F
  raw_own : ∀ {w : World} {base n : Nat} {d : Value} {F : Nat → Prop}, D.raw w base d n F → ∀ b, F b → base ≤ b ∧ b < w.heap.size
  kept_own : ∀ {w : World} {base n t : Nat} {d : Value} {l : List UInt8} {F : Nat → Prop}, D.kept w base d n l t F → ∀ b, F b → base ≤ b ∧ b < w.heap.size
  on_own : ∀ {w : World} {base n t : Nat} {d s : Value} {l : List UInt8} {g : Option Nat} {F : Nat → Prop}, D.on w base d n s l t g F → ∀ b, F b → base ≤ b ∧ b < w.heap.size
  off_own : ∀ {w : World} {base n t : Nat} {d s : Value} {l x : List UInt8} {F : Nat → Prop}, D.off w base d n s l t x F → ∀ b, F b → base ≤ b ∧ b < w.heap.size
  new_no : ∀ {w : World} (k : Int), k < 1 ∨ 80 < k → Calls Tryz.prog 34 #[.int .i64 k] w fun e w' => e = .returned (.tuple #[.pointer none, .iface 102 (.int .i64 1)]) ∧ Below w.heap.size w w'
  new_ok : ∀ {w : World} (n : Nat), 1 ≤ n → n ≤ 80 → Calls Tryz.prog 34 #[.int .i64 (n : Nat)] w fun e w' => ∃ d F, e = .returned (.tuple #[d, .nilIface]) ∧ D.raw w' w.heap.size d n F ∧ Below w.heap.size w w'
  open_no : ∀ {w : World} {base n : Nat} {d : Value} {F : Nat → Prop}, D.raw w base d n F → base ≤ w.heap.size → Calls Tryz.prog 82 #[d] w fun e w' => ∃ v, e = .returned (.tuple #[v, .iface 102 (.int .i64 5)]) ∧ Below w.heap.size w w'
  format_no : ∀ {w : World} {base n : Nat} {d : Value} {F : Nat → Prop}, D.raw w base d n F → base ≤ w.heap.size → n < 62 → Calls Tryz.prog 81 #[d] w fun e w' => e = .returned (.iface 102 (.int .i64 3)) ∧ Below w.heap.size w w'
  format_ok : ∀ {w : World} {base n : Nat} {d : Value} {F : Nat → Prop}, D.raw w base d n F → base ≤ w.heap.size → 62 ≤ n → Calls Tryz.prog 81 #[d] w fun e w' => ∃ F', e = .returned .nilIface ∧ D.kept w' base d n [] 0 F' ∧ Stands w F w' F'
  format_kept : ∀ {w : World} {base n t : Nat} {d : Value} {l : List UInt8} {F : Nat → Prop}, D.kept w base d n l t F → base ≤ w.heap.size → Calls Tryz.prog 81 #[d] w fun e w' => ∃ F', e = .returned .nilIface ∧ D.kept w' base d n [] 0 F' ∧ Stands w F w' F'
  rest : ∀ {w : World} {base n t : Nat} {d s : Value} {l : List UInt8} {F : Nat → Prop}, D.on w base d n s l t none F → ∃ FD, D.kept w base d n l t FD ∧ ∀ b, FD b → F b
  open_ok : ∀ {w : World} {base n t : Nat} {d : Value} {l : List UInt8} {F : Nat → Prop}, D.kept w base d n l t F → base ≤ w.heap.size → l.length ≤ 960 → t ≤ 1000 → Calls Tryz.prog 82 #[d] w fun e w' => ∃ s F', e = .returned (.tuple #[s, .nilIface]) ∧ D.on w' base d n s l t none F' ∧ Stands w F w' F'
  save_full : ∀ {w : World} {base n t : Nat} {d s : Value} {l : List UInt8} {g : Option Nat} {F : Nat → Prop} {a : Option Addr} {x : List UInt8} {c : Nat}, D.on w base d n s l t g F → base ≤ w.heap.size → BtAt w a x → x.length ≤ c → c ≤ maxLen → 960 < x.length →
    Calls Tryz.prog 83 #[s, .slice a x.length c] w fun e w' => ∃ F', e = .returned (.iface 102 (.int .i64 3)) ∧ D.on w' base d n s l t g F' ∧ Stands w F w' F'
  save : ∀ {w : World} {base n t : Nat} {d s : Value} {l : List UInt8} {g : Option Nat} {F : Nat → Prop} {a : Option Addr} {x : List UInt8} {c : Nat}, D.on w base d n s l t g F → base ≤ w.heap.size → BtAt w a x → x.length ≤ c → c ≤ maxLen → (a = none → c = 0) → (x ≠ [] → ∀ b o, a = some ⟨b, o, none⟩ → ¬ F b) → x.length ≤ 960 → l.length ≤ 960 → t ≤ 1000 →
    Calls Tryz.prog 83 #[s, .slice a x.length c] w fun e w' => ∃ F', ((∃ g', e = .returned .nilIface ∧ D.on w' base d n s x (t + 1) g' F' ∧ (g = none → g' = none)) ∨ (e = .returned (.iface 102 (.int .i64 8)) ∧ g ≠ none ∧ D.off w' base d n s l t x F')) ∧ Stands w F w' F'
  save_off : ∀ {w : World} {base n t : Nat} {d s : Value} {l x : List UInt8} {F : Nat → Prop}, D.off w base d n s l t x F → base ≤ w.heap.size → Calls Tryz.prog 83 #[s, .slice none 0 0] w fun e w' => ∃ F', e = .returned (.iface 102 (.int .i64 8)) ∧ D.off w' base d n s l t x F' ∧ Stands w F w' F'
  load_on : ∀ {w : World} {base n t : Nat} {d s : Value} {l : List UInt8} {g : Option Nat} {F : Nat → Prop}, D.on w base d n s l t g F → base ≤ w.heap.size → Calls Tryz.prog 84 #[s] w fun e w' => ∃ a c, e = .returned (.slice a l.length c) ∧ BtAt w' a l ∧ (l.length ≤ c ∧ c ≤ maxLen) ∧ Below w.heap.size w w'
  load_off : ∀ {w : World} {base n t : Nat} {d s : Value} {l x : List UInt8} {F : Nat → Prop}, D.off w base d n s l t x F → base ≤ w.heap.size → Calls Tryz.prog 84 #[s] w fun e w' => ∃ a c, e = .returned (.slice a l.length c) ∧ BtAt w' a l ∧ Below w.heap.size w w'
  turn_on : ∀ {w : World} {base n t : Nat} {d s : Value} {l : List UInt8} {g : Option Nat} {F : Nat → Prop}, D.on w base d n s l t g F → base ≤ w.heap.size → Calls Tryz.prog 91 #[s] w fun e w' => e = .returned (.int .i64 (t : Nat)) ∧ Below w.heap.size w w'
  turn_off : ∀ {w : World} {base n t : Nat} {d s : Value} {l x : List UInt8} {F : Nat → Prop}, D.off w base d n s l t x F → base ≤ w.heap.size → Calls Tryz.prog 91 #[s] w fun e w' => e = .returned (.int .i64 (t : Nat)) ∧ Below w.heap.size w w'
  crash_on : ∀ {w : World} {base n t : Nat} {d s : Value} {l : List UInt8} {g : Option Nat} {F : Nat → Prop} {a : Option Addr} {m c : Nat} {f : Nat → Int}, D.on w base d n s l t g F → base ≤ w.heap.size → NumAt w a m f → m ≤ c → c ≤ maxLen → (0 < m → ∀ b o, a = some ⟨b, o, none⟩ → ¬ F b) →
    Calls Tryz.prog 39 #[d, .slice a m c] w fun e w' => ∃ F', e = .returned (.tuple #[]) ∧ D.kept w' base d n l t F' ∧ Stands w F w' F'
  crash_off : ∀ {w : World} {base n t : Nat} {d s : Value} {l x : List UInt8} {F : Nat → Prop} {a : Option Addr} {m c : Nat} {f : Nat → Int}, D.off w base d n s l t x F → base ≤ w.heap.size → NumAt w a m f → m ≤ c → c ≤ maxLen → (0 < m → ∀ b o, a = some ⟨b, o, none⟩ → ¬ F b) →
    Calls Tryz.prog 39 #[d, .slice a m c] w fun e w' => ∃ F', e = .returned (.tuple #[]) ∧ (D.kept w' base d n l t F' ∨ D.kept w' base d n x (t + 1) F') ∧ Stands w F w' F'

end Go.Proofs.YtcfemppdeidjmacGreat.Sk

namespace Go.Proofs.YtcfemppdeidjmacGreat.Dk
open Go.RowKit Go.Deep
open Go.RowKit (Below)
set_option linter.unusedVariables false

variable {w w' wr : World} {D : Face} {B n : Nat} {d : Value} {X : Nat → Prop} {s s' : St}

def Same (X : Nat → Prop) (w w' : World) : Prop := ∀ b, X b → w'.heap[b]? = w.heap[b]?
theorem Er.nil {v : Value} (h : Er v 0) : v = .nilIface := by
  rcases h with ⟨h, _⟩ | ⟨_, h⟩
  · exact h
  · exact absurd rfl h
theorem Er.some {v : Value} {x : Int} (h : Er v x) (hx : x ≠ 0) : v = .iface 102 (.int .i64 x) := by
  rcases h with ⟨_, h⟩ | ⟨h, _⟩
  · exact absurd h hx
  · exact h

end Go.Proofs.YtcfemppdeidjmacGreat.Dk

namespace Go.Proofs.YtcfemppdeidjmacGreat.Sk
open Go.RowKit Go.Deep Go.Proofs.YtcfemppdeidjmacGreat.Dk
open Go.RowKit (Below)
set_option linter.unusedVariables false

variable {w w' wr : World} {D : Face} {B n t : Nat} {d s : Value} {l x : List UInt8} {g : Option Nat} {X : Nat → Prop} {P P' : World → Nat → (Nat → Prop) → Prop}

def Keeps (P : World → Nat → (Nat → Prop) → Prop) : Prop := ∀ {w w' : World} {B : Nat} {F : Nat → Prop}, P w B F → w.heap.size ≤ w'.heap.size → (∀ b, F b → w'.heap[b]? = w.heap[b]?) → P w' B F
def Owns (P : World → Nat → (Nat → Prop) → Prop) : Prop := ∀ {w : World} {B : Nat} {F : Nat → Prop}, P w B F → ∀ b, F b → B ≤ b ∧ b < w.heap.size

structure SW (P : World → Nat → (Nat → Prop) → Prop) (w : World) (B : Nat) (X : Nat → Prop) (wr : World) : Prop where
  at_ : ∃ F, P wr B F ∧ ∀ b, X b → ¬ F b ∧ b < wr.heap.size
  below : Below w.heap.size w wr
  b1 : w.heap.size ≤ B
  b2 : B ≤ wr.heap.size

theorem SW.turn (hO : Owns P) {F F' : Nat → Prop} (h : SW P w B X wr) (hF : P wr B F) (hX : ∀ b, X b → ¬ F b ∧ b < wr.heap.size) (h1 : P' w' B F') (hs : Stands wr F w' F') : SW P' w B X w' :=
  ⟨⟨F', h1, fun b hb => ⟨fun q => by
    rcases hs.1 b q with q' | q'
    · exact (hX b hb).1 q'
    · have := (hX b hb).2; omega, Nat.lt_of_lt_of_le (hX b hb).2 hs.2.size⟩⟩,
   hs.2.below h.below h.below.size (fun k hk => Nat.le_trans h.b1 (hO hF k hk).1), h.b1, Nat.le_trans h.b2 hs.2.size⟩

theorem SW.step (hK : Keeps P) (hO : Owns P) (h : SW P w B X wr) (hb : Below wr.heap.size wr w') : SW P w B X w' := by
  obtain ⟨F, hF, hX⟩ := h.at_
  exact ⟨⟨F, hK hF hb.size fun b q => hb.block b (hO hF b q).2, fun b q => ⟨(hX b q).1, Nat.lt_of_lt_of_le (hX b q).2 hb.size⟩⟩, below_step h.below hb, h.b1, Nat.le_trans h.b2 hb.size⟩

def Apart (w : World) (X : Nat → Prop) (a : Option Addr) : Prop := ∀ b o, a = some ⟨b, o, none⟩ → b < w.heap.size ∨ X b

theorem SW.clear (hO : Owns P) (h : SW P w B X wr) {F : Nat → Prop} (hF : P wr B F) (hX : ∀ b, X b → ¬ F b ∧ b < wr.heap.size) {a : Option Addr} (ha : Apart w X a) : ∀ b o, a = some ⟨b, o, none⟩ → ¬ F b := fun b o e q => by
  rcases ha b o e with z | z
  · have := (hO hF b q).1
    have := h.b1
    omega
  · exact (hX b z).1 q

theorem same_t {F F' : Nat → Prop} (hX : ∀ b, X b → ¬ F b ∧ b < wr.heap.size) (hs : Stands wr F w' F') : Same X wr w' := fun b hb => hs.2.block b (hX b hb).2 (hX b hb).1
theorem same_b {F : Nat → Prop} (hX : ∀ b, X b → ¬ F b ∧ b < wr.heap.size) (hb : Below wr.heap.size wr w') : Same X wr w' := fun b q => hb.block b (hX b q).2

abbrev kept (D : Face) (d : Value) (n : Nat) (l : List UInt8) (t : Nat) : World → Nat → (Nat → Prop) → Prop := fun w B F => D.kept w B d n l t F
abbrev off (D : Face) (d : Value) (n : Nat) (s : Value) (l : List UInt8) (t : Nat) (x : List UInt8) : World → Nat → (Nat → Prop) → Prop := fun w B F => D.off w B d n s l t x F

end Go.Proofs.YtcfemppdeidjmacGreat.Sk

namespace Go.Proofs.YtcfemppdeidjmacGreat.Ds
open Go.RowKit Go.Deep Go.Proofs.YtcfemppdeidjmacGreat.Dk Go.Proofs.YtcfemppdeidjmacGreat.Br
open Go.Proofs.YtcfemppdeidjmacGreat.Sk (Stands given SW Keeps Owns Apart same_t same_b)
open Go.RowKit (Below)
set_option linter.unusedVariables false

structure Fine (n : Nat) (A : List (Nat × Nat)) : Prop where
  up : Up A
  len : A.length ≤ 200
  among : Among n A
  n1 : 1 ≤ n
  n60 : n ≤ 60

def evl (f : Nat → Ev) (m : Nat) : List Ev := (List.range m).map f
theorem evl_len (f : Nat → Ev) (m : Nat) : (evl f m).length = m := by simp [evl]
theorem evl_more (f : Nat → Ev) (m : Nat) : evl f (m + 1) = evl f m ++ [f m] := by simp [evl, List.range_succ]

def BlAt (w : World) (a : Option Addr) (l : List Bool) : Prop := ∀ i, i < l.length → ∃ b o, a = some ⟨b, o, none⟩ ∧ w.cell? ⟨b, o + i, none⟩ = some (.bool (l.getD i false))
structure DFace where
  raw : World → Nat → Value → (Nat → Prop) → Prop
  kept : World → Nat → Value → Nat → List (Nat × Nat) → Nat → (Nat → Prop) → Prop
  on : World → Nat → Value → Nat → Value → List (Nat × Nat) → List (Nat × Nat) → Nat → Option Nat → (Nat → Prop) → Prop
  off : World → Nat → Value → Nat → List (Nat × Nat) → List (Nat × Nat) → Nat → (Nat → Prop) → Prop
  gr : World → Value → Nat → List (Nat × Nat) → Prop

structure DeskOk (D : DFace) : Prop where
  raw_keep : ∀ {w w' : World} {base : Nat} {d : Value} {F : Nat → Prop}, D.raw w base d F → w.heap.size ≤ w'.heap.size → (∀ b, F b → w'.heap[b]? = w.heap[b]?) → D.raw w' base d F
  kept_keep : ∀ {w w' : World} {base n t : Nat} {d : Value} {A : List (Nat × Nat)} {F : Nat → Prop}, D.kept w base d n A t F → w.heap.size ≤ w'.heap.size → (∀ b, F b → w'.heap[b]? = w.heap[b]?) → D.kept w' base d n A t F
  on_keep : ∀ {w w' : World} {base n t : Nat} {d k : Value} {A S : List (Nat × Nat)} {g : Option Nat} {F : Nat → Prop}, D.on w base d n k A S t g F → w.heap.size ≤ w'.heap.size → (∀ b, F b → w'.heap[b]? = w.heap[b]?) → D.on w' base d n k A S t g F
  off_keep : ∀ {w w' : World} {base n t : Nat} {d : Value} {A S : List (Nat × Nat)} {F : Nat → Prop}, D.off w base d n A S t F → w.heap.size ≤ w'.heap.size → (∀ b, F b → w'.heap[b]? = w.heap[b]?) → D.off w' base d n A S t F
  gr_keep : ∀ {w w' : World} {n : Nat} {v : Value} {A : List (Nat × Nat)}, D.gr w v n A → Below w.heap.size w w' → D.gr w' v n A
  raw_own : ∀ {w : World} {base : Nat} {d : Value} {F : Nat → Prop}, D.raw w base d F → ∀ b, F b → base ≤ b ∧ b < w.heap.size
  kept_own : ∀ {w : World} {base n t : Nat} {d : Value} {A : List (Nat × Nat)} {F : Nat → Prop}, D.kept w base d n A t F → ∀ b, F b → base ≤ b ∧ b < w.heap.size
  on_own : ∀ {w : World} {base n t : Nat} {d k : Value} {A S : List (Nat × Nat)} {g : Option Nat} {F : Nat → Prop}, D.on w base d n k A S t g F → ∀ b, F b → base ≤ b ∧ b < w.heap.size
  off_own : ∀ {w : World} {base n t : Nat} {d : Value} {A S : List (Nat × Nat)} {F : Nat → Prop}, D.off w base d n A S t F → ∀ b, F b → base ≤ b ∧ b < w.heap.size
  on_fine : ∀ {w : World} {base n t : Nat} {d k : Value} {A S : List (Nat × Nat)} {g : Option Nat} {F : Nat → Prop}, D.on w base d n k A S t g F → Fine n A ∧ Fine n S
  new_ok : ∀ {w : World}, Calls Tryz.prog 34 #[.int .i64 62] w fun e w' => ∃ d F, e = .returned (.tuple #[d, .nilIface]) ∧ D.raw w' w.heap.size d F ∧ Below w.heap.size w w'
  format_bad : ∀ {w : World} {base : Nat} {d : Value} {F : Nat → Prop} (p : Int), D.raw w base d F → base ≤ w.heap.size → p < 1 ∨ 60 < p → Calls Tryz.prog 35 #[d, .int .i64 p] w fun e w' => ∃ F', e = .returned (.iface 102 (.int .i64 1)) ∧ Stands w F w' F'
  format_ok : ∀ {w : World} {base n : Nat} {d : Value} {F : Nat → Prop}, D.raw w base d F → base ≤ w.heap.size → 1 ≤ n → n ≤ 60 → Calls Tryz.prog 35 #[d, .int .i64 (n : Nat)] w fun e w' => ∃ F', e = .returned .nilIface ∧ D.kept w' base d n [] 1 F' ∧ Stands w F w' F'
  again_bad : ∀ {w : World} {base n t : Nat} {d k : Value} {A S : List (Nat × Nat)} {F : Nat → Prop} (p : Int), D.on w base d n k A S t none F → base ≤ w.heap.size → p < 1 ∨ 60 < p → Calls Tryz.prog 35 #[d, .int .i64 p] w fun e w' => ∃ F', e = .returned (.iface 102 (.int .i64 1)) ∧ Stands w F w' F'
  again_ok : ∀ {w : World} {base n n' t : Nat} {d k : Value} {A S : List (Nat × Nat)} {F : Nat → Prop}, D.on w base d n k A S t none F → base ≤ w.heap.size → 1 ≤ n' → n' ≤ 60 → Calls Tryz.prog 35 #[d, .int .i64 (n' : Nat)] w fun e w' => ∃ F', e = .returned .nilIface ∧ D.kept w' base d n' [] 1 F' ∧ Stands w F w' F'
  open_ok : ∀ {w : World} {base n t : Nat} {d : Value} {A : List (Nat × Nat)} {F : Nat → Prop}, D.kept w base d n A t F → base ≤ w.heap.size → t ≤ 1000 → Calls Tryz.prog 36 #[d] w fun e w' => ∃ k F', e = .returned (.tuple #[k, .nilIface]) ∧ D.on w' base d n k A A t none F' ∧ Stands w F w' F'
  turn : ∀ {w : World} {base n t : Nat} {d k : Value} {A S : List (Nat × Nat)} {g : Option Nat} {F : Nat → Prop}, D.on w base d n k A S t g F → Calls Tryz.prog 44 #[k] w fun e w' => e = .returned (.int .i64 (t : Nat)) ∧ Below w.heap.size w w'
  does : ∀ {w : World} {base n t : Nat} {d k : Value} {A S : List (Nat × Nat)} {g : Option Nat} {F : Nat → Prop} {a : Option Addr} {m c : Nat} {f : Nat → Ev}, D.on w base d n k A S t g F → base ≤ w.heap.size → EvAt w a m f → m ≤ c → c ≤ maxLen → (0 < m → ∀ b o, a = some ⟨b, o, none⟩ → ¬ F b) →
    Calls Tryz.prog 37 #[k, .slice a m c] w fun e w' => ∃ v x A' out a' c' F', e = .returned (.tuple #[.slice a' out.length c', v]) ∧ Er v x ∧ Does n A (evl f m) x A' out ∧ BlAt w' a' out ∧ out.length ≤ c' ∧ c' ≤ maxLen ∧ (a' = none → c' = 0) ∧ (∀ b o, a' = some ⟨b, o, none⟩ → w.heap.size ≤ b ∧ ¬ F' b) ∧ D.on w' base d n k A' S t g F' ∧ Stands w F w' F'
  save : ∀ {w : World} {base n t : Nat} {d k : Value} {A S : List (Nat × Nat)} {g : Option Nat} {F : Nat → Prop}, D.on w base d n k A S t g F → base ≤ w.heap.size → t ≤ 1000 →
    Calls Tryz.prog 38 #[k] w fun e w' => ∃ F', ((∃ g', e = .returned .nilIface ∧ D.on w' base d n k A A (t + 1) g' F' ∧ (g = none → g' = none)) ∨ (e = .returned (.iface 102 (.int .i64 8)) ∧ g ≠ none ∧ D.off w' base d n A S t F')) ∧ Stands w F w' F'
  crash_on : ∀ {w : World} {base n t : Nat} {d k : Value} {A S : List (Nat × Nat)} {g : Option Nat} {F : Nat → Prop} {a : Option Addr} {m c : Nat} {f : Nat → Int}, D.on w base d n k A S t g F → base ≤ w.heap.size → NumAt w a m f → m ≤ c → c ≤ maxLen → (0 < m → ∀ b o, a = some ⟨b, o, none⟩ → ¬ F b) →
    Calls Tryz.prog 39 #[d, .slice a m c] w fun e w' => ∃ F', e = .returned (.tuple #[]) ∧ D.kept w' base d n S t F' ∧ Stands w F w' F'
  crash_off : ∀ {w : World} {base n t : Nat} {d : Value} {A S : List (Nat × Nat)} {F : Nat → Prop} {a : Option Addr} {m c : Nat} {f : Nat → Int}, D.off w base d n A S t F → base ≤ w.heap.size → NumAt w a m f → m ≤ c → c ≤ maxLen → (0 < m → ∀ b o, a = some ⟨b, o, none⟩ → ¬ F b) →
    Calls Tryz.prog 39 #[d, .slice a m c] w fun e w' => ∃ F', e = .returned (.tuple #[]) ∧ (D.kept w' base d n S t F' ∨ D.kept w' base d n A (t + 1) F') ∧ Stands w F w' F'
  graph : ∀ {w : World} {base n t : Nat} {d k : Value} {A S : List (Nat × Nat)} {g : Option Nat} {F : Nat → Prop}, D.on w base d n k A S t g F → base ≤ w.heap.size → Calls Tryz.prog 43 #[k] w fun e w' => ∃ v, e = .returned v ∧ D.gr w' v n A ∧ Below w.heap.size w w'
  edges : ∀ {w : World} {n : Nat} {v : Value} {A : List (Nat × Nat)}, D.gr w v n A → Calls Tryz.prog 11 #[v] w fun e w' => ∃ a c, e = .returned (.slice a A.length c) ∧ EdgesAt w' a A ∧ A.length ≤ c ∧ c ≤ maxLen ∧ (A ≠ [] → ∀ b o, a = some ⟨b, o, none⟩ → w.heap.size ≤ b ∧ b < w'.heap.size) ∧ Below w.heap.size w w'

end Go.Proofs.YtcfemppdeidjmacGreat.Ds

namespace Go.Proofs.YtcfemppdeidjmacGreat.Ds
open Go.RowKit Go.Deep Go.Proofs.YtcfemppdeidjmacGreat.Dk Go.Proofs.YtcfemppdeidjmacGreat.Br
open Go.Proofs.YtcfemppdeidjmacGreat.Sk (Stands given SW Keeps Owns Apart same_t same_b)
open Go.RowKit (Below)
set_option linter.unusedVariables false

variable {w w' wr : World} {D : DFace} {B n t : Nat} {d k v : Value} {A S : List (Nat × Nat)} {g : Option Nat} {X : Nat → Prop}

abbrev raw (D : DFace) (d : Value) : World → Nat → (Nat → Prop) → Prop := fun w B F => D.raw w B d F
abbrev kept (D : DFace) (d : Value) (n : Nat) (A : List (Nat × Nat)) (t : Nat) : World → Nat → (Nat → Prop) → Prop := fun w B F => D.kept w B d n A t F
abbrev on (D : DFace) (d : Value) (n : Nat) (k : Value) (A S : List (Nat × Nat)) (t : Nat) (g : Option Nat) : World → Nat → (Nat → Prop) → Prop := fun w B F => D.on w B d n k A S t g F
abbrev off (D : DFace) (d : Value) (n : Nat) (A S : List (Nat × Nat)) (t : Nat) : World → Nat → (Nat → Prop) → Prop := fun w B F => D.off w B d n A S t F

theorem DeskOk.on_k (O : DeskOk D) : Keeps (on D d n k A S t g) := fun h h1 h2 => O.on_keep h h1 h2
theorem DeskOk.raw_o (O : DeskOk D) : Owns (raw D d) := fun h => O.raw_own h
theorem DeskOk.kept_o (O : DeskOk D) : Owns (kept D d n A t) := fun h => O.kept_own h
theorem DeskOk.on_o (O : DeskOk D) : Owns (on D d n k A S t g) := fun h => O.on_own h
theorem sw_since {P : World → Nat → (Nat → Prop) → Prop} (hK : Keeps P) (hO : Owns P) (h : SW P w B X wr) (hb : Below wr.heap.size wr w') : SW P w B (fun b => X b ∨ (wr.heap.size ≤ b ∧ b < w'.heap.size)) w' := by
  obtain ⟨F, hF, hX⟩ := h.at_
  refine ⟨⟨F, hK hF hb.size fun b q => hb.block b (hO hF b q).2, fun b q => ?_⟩, Dk.below_step h.below hb, h.b1, Nat.le_trans h.b2 hb.size⟩
  rcases q with q | ⟨q1, q2⟩
  · exact ⟨(hX b q).1, Nat.lt_of_lt_of_le (hX b q).2 hb.size⟩
  · exact ⟨fun z => by have := (hO hF b z).2; omega, q2⟩

theorem dw_new (O : DeskOk D) (h : Below w.heap.size w wr) : Calls Tryz.prog 34 #[.int .i64 62] wr fun e w' => ∃ d, e = .returned (.tuple #[d, .nilIface]) ∧ SW (raw D d) w wr.heap.size (fun _ => False) w' ∧ Below wr.heap.size wr w' :=
  O.new_ok.mono fun e w' ⟨d, F, e1, e2, e3⟩ => ⟨d, e1, ⟨⟨F, e2, fun b q => q.elim⟩, Dk.below_step h e3, h.size, e3.size⟩, e3⟩

theorem dw_format (O : DeskOk D) (h : SW (raw D d) w B X wr) (h1 : 1 ≤ n) (h2 : n ≤ 60) : Calls Tryz.prog 35 #[d, .int .i64 (n : Nat)] wr fun e w' => e = .returned .nilIface ∧ SW (kept D d n [] 1) w B X w' ∧ Same X wr w' := by
  obtain ⟨F, hF, hX⟩ := h.at_
  exact (O.format_ok hF h.b2 h1 h2).mono fun e w' ⟨F', e1, e2, e3⟩ => ⟨e1, h.turn O.raw_o hF hX e2 e3, same_t hX e3⟩
theorem dw_open (O : DeskOk D) (h : SW (kept D d n A t) w B X wr) (ht : t ≤ 1000) : Calls Tryz.prog 36 #[d] wr fun e w' => ∃ k, e = .returned (.tuple #[k, .nilIface]) ∧ SW (on D d n k A A t none) w B X w' ∧ Same X wr w' := by
  obtain ⟨F, hF, hX⟩ := h.at_
  exact (O.open_ok hF h.b2 ht).mono fun e w' ⟨k, F', e1, e2, e3⟩ => ⟨k, e1, h.turn O.kept_o hF hX e2 e3, same_t hX e3⟩
theorem dw_turn (O : DeskOk D) (h : SW (on D d n k A S t g) w B X wr) : Calls Tryz.prog 44 #[k] wr fun e w' => e = .returned (.int .i64 (t : Nat)) ∧ SW (on D d n k A S t g) w B X w' ∧ Below wr.heap.size wr w' := by
  obtain ⟨F, hF, hX⟩ := h.at_
  exact (O.turn hF).mono fun e w' ⟨e1, e2⟩ => ⟨e1, h.step O.on_k O.on_o e2, e2⟩
theorem dw_do (O : DeskOk D) (h : SW (on D d n k A S t g) w B X wr) {a : Option Addr} {m c : Nat} {f : Nat → Ev} (ha : EvAt wr a m f) (hc : m ≤ c) (hc2 : c ≤ maxLen) (hap : 0 < m → Apart w X a) :
    Calls Tryz.prog 37 #[k, .slice a m c] wr fun e w' => ∃ v x A' out a' c', e = .returned (.tuple #[.slice a' out.length c', v]) ∧ Er v x ∧ Does n A (evl f m) x A' out ∧ BlAt w' a' out ∧ out.length ≤ c' ∧ c' ≤ maxLen ∧ SW (on D d n k A' S t g) w B X w' ∧ Same X wr w' := by
  obtain ⟨F, hF, hX⟩ := h.at_
  exact (O.does hF h.b2 ha hc hc2 (fun q => h.clear O.on_o hF hX (hap q))).mono fun e w' ⟨v, x, A', out, a', c', F', e1, e2, e3, e4, e5, e6, _, e7, e8, e9⟩ => ⟨v, x, A', out, a', c', e1, e2, e3, e4, e5, e6, h.turn O.on_o hF hX e8 e9, same_t hX e9⟩
theorem dw_save (O : DeskOk D) (h : SW (on D d n k A S t g) w B X wr) (ht : t ≤ 1000) :
    Calls Tryz.prog 38 #[k] wr fun e w' => ((∃ g', e = .returned .nilIface ∧ SW (on D d n k A A (t + 1) g') w B X w' ∧ (g = none → g' = none)) ∨ (e = .returned (.iface 102 (.int .i64 8)) ∧ g ≠ none ∧ SW (off D d n A S t) w B X w')) ∧ Same X wr w' := by
  obtain ⟨F, hF, hX⟩ := h.at_
  refine (O.save hF h.b2 ht).mono ?_
  rintro e w' ⟨F', ⟨g', e1, e2, e3⟩ | ⟨e1, e2, e3⟩, hs⟩
  · exact ⟨Or.inl ⟨g', e1, h.turn O.on_o hF hX e2 hs, e3⟩, same_t hX hs⟩
  · exact ⟨Or.inr ⟨e1, e2, h.turn O.on_o hF hX e3 hs⟩, same_t hX hs⟩
end Go.Proofs.YtcfemppdeidjmacGreat.Ds

namespace Go.Proofs.YtcfemppdeidjmacGreat.Ds
open Go.RowKit Go.Deep Go.Proofs.YtcfemppdeidjmacGreat.Br
open Go.Proofs.YtcfemppdeidjmacGreat.Dk (EvAt NumAt Er Same)
open Go.RowKit (Below)
set_option linter.unusedVariables false

def fact2 : Nat → Ev := fun i => if i = 0 then (1, 0, 1) else (3, 1, 0)
theorem fact_does : Does 3 [] (evl fact2 2) 0 [(0, 1)] [true] := by
  refine Or.inr ⟨by decide, Or.inr ⟨rfl, Or.inr ⟨[(0, 1)], [], [true], ?_, ?_, rfl⟩⟩⟩
  · exact Or.inr (Or.inr (Or.inr (Or.inr (Or.inl ⟨⟨rfl, ⟨by decide, by decide⟩, ⟨by decide, by decide⟩⟩, by decide, by simp, by decide, rfl, List.pairwise_singleton _ _, List.Perm.refl _, rfl⟩))))
  · refine Or.inr ⟨[(0, 1)], [true], [], ?_, ⟨rfl, rfl, rfl⟩, rfl⟩
    refine Or.inr (Or.inr (Or.inr (Or.inr (Or.inr (Or.inr (Or.inr ⟨⟨rfl, ⟨by decide, by decide⟩, ⟨by decide, by decide⟩⟩, rfl, rfl, true, ⟨fun _ => ?_, fun _ => rfl⟩, rfl⟩))))))
    exact fun Q h => h.1.symm (h.2 (0, 1) (List.mem_singleton.2 rfl))
theorem fact_only {x : Int} {A' : List (Nat × Nat)} {out : List Bool} (h : Does 3 [] (evl fact2 2) x A' out) : x = 0 ∧ A' = [(0, 1)] ∧ out = [true] := h.one fact_does List.Pairwise.nil
theorem fact_at (w : World) : EvAt (w.alloc (.cells #[.int .i64 1, .int .i64 0, .int .i64 1, .int .i64 3, .int .i64 1, .int .i64 0] 80)) (some ⟨w.heap.size, 0, none⟩) 2 fact2 := fun i hi => by
  have h := World.rowIs_alloc w #[.int .i64 1, .int .i64 0, .int .i64 1, .int .i64 3, .int .i64 1, .int .i64 0] 80 (fun i => if i = 0 then .int .i64 1 else if i = 1 then .int .i64 0 else if i = 2 then .int .i64 1 else if i = 3 then .int .i64 3 else if i = 4 then .int .i64 1 else .int .i64 0) (fun i hi => by
    have : i = 0 ∨ i = 1 ∨ i = 2 ∨ i = 3 ∨ i = 4 ∨ i = 5 := by simp at hi; omega
    rcases this with rfl | rfl | rfl | rfl | rfl | rfl <;> rfl)
  have : i = 0 ∨ i = 1 := by omega
  rcases this with rfl | rfl
  · exact ⟨_, _, rfl, h.cell (i := 0) (by simp), h.cell (i := 1) (by simp), h.cell (i := 2) (by simp)⟩
  · exact ⟨_, _, rfl, h.cell (i := 3) (by simp), h.cell (i := 4) (by simp), h.cell (i := 5) (by simp)⟩
end Go.Proofs.YtcfemppdeidjmacGreat.Ds

namespace Go.Proofs.YtcfemppdeidjmacGreat.Ds
open Go.RowKit Go.Deep Go.Proofs.YtcfemppdeidjmacGreat.Br
open Go.Proofs.YtcfemppdeidjmacGreat.Dk (EvAt NumAt Er Same)
open Go.Proofs.YtcfemppdeidjmacGreat.Sk (SW Apart)
open Go.RowKit (Below)
set_option linter.unusedVariables false

variable {w w' wr : World} {D : DFace}

set_option maxRecDepth 100000 in
set_option maxHeartbeats 4000000 in
theorem one_ok (O : DeskOk D) : To.OneOk := by
  intro w
  have HO : Hid (DeskOk D) := O
  clear O
  go_enter Tryz.func8, Tryz.ntmps8
  go_wp2_with fail
  refine (dw_new HO.out (Below.refl _ w)).mono ?_
  rintro e w1 ⟨d, rfl, hz, -⟩
  have HZ1 : Hid (SW (raw D d) w w.heap.size (fun _ => False) w1) := hz
  clear hz
  go_wp2_with fail
  refine (dw_format (n := 3) HO.out HZ1.out (by decide) (by decide)).mono ?_
  rintro e w2 ⟨rfl, hz, -⟩
  have HZ2 : Hid (SW (kept D d 3 [] 1) w w.heap.size (fun _ => False) w2) := hz
  clear hz HZ1
  go_wp2_with fail
  refine (dw_open HO.out HZ2.out (by decide)).mono ?_
  rintro e w3 ⟨k, rfl, hz, -⟩
  have hbl : Below w3.heap.size w3 (w3.alloc (.cells #[.int .i64 1, .int .i64 0, .int .i64 1, .int .i64 3, .int .i64 1, .int .i64 0] 80)) := (Below.refl _ _).alloc (Nat.le_refl _) _
  have hap := sw_since (P := on D d 3 k [] [] 1 none) HO.out.on_k HO.out.on_o hz hbl
  have hev := fact_at w3
  have hX : (fun b => False ∨ (w3.heap.size ≤ b ∧ b < (w3.alloc (.cells #[.int .i64 1, .int .i64 0, .int .i64 1, .int .i64 3, .int .i64 1, .int .i64 0] 80)).heap.size)) w3.heap.size := Or.inr ⟨Nat.le_refl _, by simp⟩
  obtain ⟨W4, hW4⟩ : ∃ W4, w3.alloc (.cells #[.int .i64 1, .int .i64 0, .int .i64 1, .int .i64 3, .int .i64 1, .int .i64 0] 80) = W4 := ⟨_, rfl⟩
  obtain ⟨E4, hE4⟩ : ∃ E4, w3.heap.size = E4 := ⟨_, rfl⟩
  rw [hW4] at hbl hap hev hX
  rw [hE4] at hap hev hX
  obtain ⟨X4, hX4⟩ : ∃ X4 : Nat → Prop, (fun b => False ∨ (E4 ≤ b ∧ b < W4.heap.size)) = X4 := ⟨_, rfl⟩
  have hX2 : X4 E4 := by rw [← hX4]; exact hX
  rw [hX4] at hap
  have HZ4 : Hid (SW (on D d 3 k [] [] 1 none) w w.heap.size X4 W4 ∧ EvAt W4 (some ⟨E4, 0, none⟩) 2 fact2 ∧ X4 E4) := ⟨hap, hev, hX2⟩
  clear hz hbl hap hev hX hX2 hX4 HZ2
  go_wp2_with (first | rw [hW4, hE4] | rw [hW4])
  refine (dw_do HO.out HZ4.out.1 HZ4.out.2.1 (Nat.le_refl 2) (by decide) (fun _ b o e => Or.inr (by simp at e; rw [← e.1]; exact HZ4.out.2.2))).mono ?_
  rintro e w5 ⟨v, x, A1, out, oa, oc, rfl, her, hdo, hbl, -, -, hz, -⟩
  obtain ⟨rfl, rfl, rfl⟩ := fact_only hdo
  obtain rfl := Dk.Er.nil her
  obtain ⟨b5, o5, rfl, hc5⟩ := hbl 0 (by decide)
  replace hc5 : w5.cell? ⟨b5, o5, none⟩ = some (.bool true) := hc5
  have HZ6 : Hid (SW (on D d 3 k [(0, 1)] [] 1 none) w w.heap.size X4 w5) := hz
  clear her hdo hbl hz HZ4 hW4 hE4
  go_wp2_with fail
  refine (dw_save HO.out HZ6.out (by decide)).mono ?_
  rintro e w9 ⟨hor, -⟩
  replace hor := hor.resolve_right fun q => q.2.1 rfl
  obtain ⟨g', rfl, hz, hg⟩ := hor
  obtain rfl := hg rfl
  have HZ9 : Hid (SW (on D d 3 k [(0, 1)] [(0, 1)] 2 none) w w.heap.size X4 w9) := hz
  clear hz hg HZ6 hc5
  go_wp2_with fail
  refine (dw_turn HO.out HZ9.out).mono ?_
  rintro e w10 ⟨rfl, hz, -⟩
  have HB : Hid (Below w.heap.size w w10) := hz.below
  clear hz HZ9
  go_wp2_with fail
  go_ret
  exact ⟨rfl, HB.out⟩

end Go.Proofs.YtcfemppdeidjmacGreat.Ds
