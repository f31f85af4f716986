/-
  What package store, and the disk under it, are to answer to StoreKeeps.
  The landed disk: New; all of package disk.
  The landed store: all of package store.
-/
import Derived.Test.YtcfemppdeidjmacGreatDoorF10
import Derived.Test.YtcfemppdeidjmacGreatDoorF11
import Derived.Test.YtcfemppdeidjmacGreatDoorF14
namespace Go.Proofs.YtcfemppdeidjmacGreatDoor.Sk
open Go.RowKit Go.Deep Go.Proofs.YtcfemppdeidjmacGreatDoor.Dk
open Go.RowKit (Below)
set_option linter.unusedVariables false

variable {w w' : World} {F F' : Nat → Prop}

/-- A store on a disk in memory, each with the world, where the call's own blocks begin, the disk, how many pages it has, and the blocks that all of it stands on: a disk as it is made; one that keeps something, of which no store is asked any more; an open store, what it keeps, its turn, and how many calls are left ahead of the power's going off; a store whose power went off while something was being saved. -/
structure Face where
  raw : World → Nat → Value → Nat → (Nat → Prop) → Prop
  kept : World → Nat → Value → Nat → List UInt8 → Nat → (Nat → Prop) → Prop
  on : World → Nat → Value → Nat → Value → List UInt8 → Nat → Option Nat → (Nat → Prop) → Prop
  off : World → Nat → Value → Nat → Value → List UInt8 → Nat → List UInt8 → (Nat → Prop) → Prop

/-- What is left when so many are given. -/
def given (k : Int) : Option Nat := if k < 0 then none else some k.toNat

/-- How a call ends that turns blocks of the store's alone, or new ones. -/
def Stands (w : World) (F : Nat → Prop) (w' : World) (F' : Nat → Prop) : Prop := (∀ b, F' b → F b ∨ w.heap.size ≤ b) ∧ Turn F w w'

/-- What packages store and disk are to answer. -/
structure StoreOk (D : Face) : Prop where
  raw_keep : ∀ {w w' : World} {base n : Nat} {d : Value} {F : Nat → Prop}, D.raw w base d n F → w.heap.size ≤ w'.heap.size → (∀ b, F b → w'.heap[b]? = w.heap[b]?) → D.raw w' base d n F
  kept_keep : ∀ {w w' : World} {base n t : Nat} {d : Value} {l : List UInt8} {F : Nat → Prop}, D.kept w base d n l t F → w.heap.size ≤ w'.heap.size → (∀ b, F b → w'.heap[b]? = w.heap[b]?) → D.kept w' base d n l t F
  on_keep : ∀ {w w' : World} {base n t : Nat} {d s : Value} {l : List UInt8} {g : Option Nat} {F : Nat → Prop}, D.on w base d n s l t g F → w.heap.size ≤ w'.heap.size → (∀ b, F b → w'.heap[b]? = w.heap[b]?) → D.on w' base d n s l t g F
  off_keep : ∀ {w w' : World} {base n t : Nat} {d s : Value} {l x : List UInt8} {F : Nat → Prop}, D.off w base d n s l t x F → w.heap.size ≤ w'.heap.size → (∀ b, F b → w'.heap[b]? = w.heap[b]?) → D.off w' base d n s l t x F
  raw_own : ∀ {w : World} {base n : Nat} {d : Value} {F : Nat → Prop}, D.raw w base d n F → ∀ b, F b → base ≤ b ∧ b < w.heap.size
  kept_own : ∀ {w : World} {base n t : Nat} {d : Value} {l : List UInt8} {F : Nat → Prop}, D.kept w base d n l t F → ∀ b, F b → base ≤ b ∧ b < w.heap.size
  on_own : ∀ {w : World} {base n t : Nat} {d s : Value} {l : List UInt8} {g : Option Nat} {F : Nat → Prop}, D.on w base d n s l t g F → ∀ b, F b → base ≤ b ∧ b < w.heap.size
  off_own : ∀ {w : World} {base n t : Nat} {d s : Value} {l x : List UInt8} {F : Nat → Prop}, D.off w base d n s l t x F → ∀ b, F b → base ≤ b ∧ b < w.heap.size
  new_no : ∀ {w : World} (k : Int), k < 1 ∨ 80 < k → Calls Tryz.prog 6 #[.int .i64 k] w fun e w' => e = .returned (.tuple #[.pointer none, .iface 28 (.int .i64 1)]) ∧ Below w.heap.size w w'
  new_ok : ∀ {w : World} (n : Nat), 1 ≤ n → n ≤ 80 → Calls Tryz.prog 6 #[.int .i64 (n : Nat)] w fun e w' => ∃ d F, e = .returned (.tuple #[d, .nilIface]) ∧ D.raw w' w.heap.size d n F ∧ Below w.heap.size w w'
  open_no : ∀ {w : World} {base n : Nat} {d : Value} {F : Nat → Prop}, D.raw w base d n F → base ≤ w.heap.size → Calls Tryz.prog 25 #[d] w fun e w' => ∃ v, e = .returned (.tuple #[v, .iface 28 (.int .i64 5)]) ∧ Below w.heap.size w w'
  format_no : ∀ {w : World} {base n : Nat} {d : Value} {F : Nat → Prop}, D.raw w base d n F → base ≤ w.heap.size → n < 62 → Calls Tryz.prog 24 #[d] w fun e w' => e = .returned (.iface 28 (.int .i64 3)) ∧ Below w.heap.size w w'
  format_ok : ∀ {w : World} {base n : Nat} {d : Value} {F : Nat → Prop}, D.raw w base d n F → base ≤ w.heap.size → 62 ≤ n → Calls Tryz.prog 24 #[d] w fun e w' => ∃ F', e = .returned .nilIface ∧ D.kept w' base d n [] 0 F' ∧ Stands w F w' F'
  format_kept : ∀ {w : World} {base n t : Nat} {d : Value} {l : List UInt8} {F : Nat → Prop}, D.kept w base d n l t F → base ≤ w.heap.size → Calls Tryz.prog 24 #[d] w fun e w' => ∃ F', e = .returned .nilIface ∧ D.kept w' base d n [] 0 F' ∧ Stands w F w' F'
  rest : ∀ {w : World} {base n t : Nat} {d s : Value} {l : List UInt8} {F : Nat → Prop}, D.on w base d n s l t none F → ∃ FD, D.kept w base d n l t FD ∧ ∀ b, FD b → F b
  open_ok : ∀ {w : World} {base n t : Nat} {d : Value} {l : List UInt8} {F : Nat → Prop}, D.kept w base d n l t F → base ≤ w.heap.size → l.length ≤ 960 → t ≤ 1000 → Calls Tryz.prog 25 #[d] w fun e w' => ∃ s F', e = .returned (.tuple #[s, .nilIface]) ∧ D.on w' base d n s l t none F' ∧ Stands w F w' F'
  save_full : ∀ {w : World} {base n t : Nat} {d s : Value} {l : List UInt8} {g : Option Nat} {F : Nat → Prop} {a : Option Addr} {x : List UInt8} {c : Nat}, D.on w base d n s l t g F → base ≤ w.heap.size → BtAt w a x → x.length ≤ c → c ≤ maxLen → 960 < x.length →
    Calls Tryz.prog 26 #[s, .slice a x.length c] w fun e w' => ∃ F', e = .returned (.iface 28 (.int .i64 3)) ∧ D.on w' base d n s l t g F' ∧ Stands w F w' F'
  save : ∀ {w : World} {base n t : Nat} {d s : Value} {l : List UInt8} {g : Option Nat} {F : Nat → Prop} {a : Option Addr} {x : List UInt8} {c : Nat}, D.on w base d n s l t g F → base ≤ w.heap.size → BtAt w a x → x.length ≤ c → c ≤ maxLen → (a = none → c = 0) → (x ≠ [] → ∀ b o, a = some ⟨b, o, none⟩ → ¬ F b) → x.length ≤ 960 → l.length ≤ 960 → t ≤ 1000 →
    Calls Tryz.prog 26 #[s, .slice a x.length c] w fun e w' => ∃ F', ((∃ g', e = .returned .nilIface ∧ D.on w' base d n s x (t + 1) g' F' ∧ (g = none → g' = none)) ∨ (e = .returned (.iface 28 (.int .i64 8)) ∧ g ≠ none ∧ D.off w' base d n s l t x F')) ∧ Stands w F w' F'
  save_off : ∀ {w : World} {base n t : Nat} {d s : Value} {l x : List UInt8} {F : Nat → Prop}, D.off w base d n s l t x F → base ≤ w.heap.size → Calls Tryz.prog 26 #[s, .slice none 0 0] w fun e w' => ∃ F', e = .returned (.iface 28 (.int .i64 8)) ∧ D.off w' base d n s l t x F' ∧ Stands w F w' F'
  load_on : ∀ {w : World} {base n t : Nat} {d s : Value} {l : List UInt8} {g : Option Nat} {F : Nat → Prop}, D.on w base d n s l t g F → base ≤ w.heap.size → Calls Tryz.prog 28 #[s] w fun e w' => ∃ a c, e = .returned (.slice a l.length c) ∧ BtAt w' a l ∧ (l.length ≤ c ∧ c ≤ maxLen) ∧ Below w.heap.size w w'
  load_off : ∀ {w : World} {base n t : Nat} {d s : Value} {l x : List UInt8} {F : Nat → Prop}, D.off w base d n s l t x F → base ≤ w.heap.size → Calls Tryz.prog 28 #[s] w fun e w' => ∃ a c, e = .returned (.slice a l.length c) ∧ BtAt w' a l ∧ Below w.heap.size w w'
  turn_on : ∀ {w : World} {base n t : Nat} {d s : Value} {l : List UInt8} {g : Option Nat} {F : Nat → Prop}, D.on w base d n s l t g F → base ≤ w.heap.size → Calls Tryz.prog 30 #[s] w fun e w' => e = .returned (.int .i64 (t : Nat)) ∧ Below w.heap.size w w'
  turn_off : ∀ {w : World} {base n t : Nat} {d s : Value} {l x : List UInt8} {F : Nat → Prop}, D.off w base d n s l t x F → base ≤ w.heap.size → Calls Tryz.prog 30 #[s] w fun e w' => e = .returned (.int .i64 (t : Nat)) ∧ Below w.heap.size w w'
  fail : ∀ {w : World} {base n t : Nat} {d s : Value} {l : List UInt8} {g : Option Nat} {F : Nat → Prop} (k : Int), D.on w base d n s l t g F → base ≤ w.heap.size → -9223372036854775808 ≤ k ∧ k ≤ 9223372036854775807 →
    Calls Tryz.prog 21 #[d, .int .i64 k] w fun e w' => ∃ F', e = .returned (.tuple #[]) ∧ D.on w' base d n s l t (given k) F' ∧ Stands w F w' F'
  crash_on : ∀ {w : World} {base n t : Nat} {d s : Value} {l : List UInt8} {g : Option Nat} {F : Nat → Prop} {a : Option Addr} {m c : Nat} {f : Nat → Int}, D.on w base d n s l t g F → base ≤ w.heap.size → NumAt w a m f → m ≤ c → c ≤ maxLen → (0 < m → ∀ b o, a = some ⟨b, o, none⟩ → ¬ F b) →
    Calls Tryz.prog 17 #[d, .slice a m c] w fun e w' => ∃ F', e = .returned (.tuple #[]) ∧ D.kept w' base d n l t F' ∧ Stands w F w' F'
  crash_off : ∀ {w : World} {base n t : Nat} {d s : Value} {l x : List UInt8} {F : Nat → Prop} {a : Option Addr} {m c : Nat} {f : Nat → Int}, D.off w base d n s l t x F → base ≤ w.heap.size → NumAt w a m f → m ≤ c → c ≤ maxLen → (0 < m → ∀ b o, a = some ⟨b, o, none⟩ → ¬ F b) →
    Calls Tryz.prog 17 #[d, .slice a m c] w fun e w' => ∃ F', e = .returned (.tuple #[]) ∧ (D.kept w' base d n l t F' ∨ D.kept w' base d n x (t + 1) F') ∧ Stands w F w' F'

end Go.Proofs.YtcfemppdeidjmacGreatDoor.Sk

namespace Go.Proofs.YtcfemppdeidjmacGreatDoor.Dk.L
open Go.RowKit Go.Deep
open Go.RowKit (Below)
set_option linter.unusedVariables false

variable {w w' : World} {B n kd g gn gk i j N : Nat} {F F' : Nat → Prop} {s : St} {v u R : Value} {l p : List UInt8} {x : Int}

theorem Tryz.infoPg : (Tryz.prog.info? 88).map (fun i => (i.zero, i.size, i.bytes)) = some (some (.agg #[.int .u8 0, .int .u8 0, .int .u8 0, .int .u8 0, .int .u8 0, .int .u8 0, .int .u8 0, .int .u8 0, .int .u8 0, .int .u8 0, .int .u8 0, .int .u8 0, .int .u8 0, .int .u8 0, .int .u8 0, .int .u8 0, .int .u8 0, .int .u8 0, .int .u8 0, .int .u8 0, .int .u8 0, .int .u8 0, .int .u8 0, .int .u8 0, .int .u8 0, .int .u8 0, .int .u8 0, .int .u8 0, .int .u8 0, .int .u8 0, .int .u8 0, .int .u8 0]), 32, 32) := by kernel_rfl

/-- Pages of 0. -/
abbrev nilPgs (n : Nat) : Obj := .cells (madeCells #[.int .u8 0, .int .u8 0, .int .u8 0, .int .u8 0, .int .u8 0, .int .u8 0, .int .u8 0, .int .u8 0, .int .u8 0, .int .u8 0, .int .u8 0, .int .u8 0, .int .u8 0, .int .u8 0, .int .u8 0, .int .u8 0, .int .u8 0, .int .u8 0, .int .u8 0, .int .u8 0, .int .u8 0, .int .u8 0, .int .u8 0, .int .u8 0, .int .u8 0, .int .u8 0, .int .u8 0, .int .u8 0, .int .u8 0, .int .u8 0, .int .u8 0, .int .u8 0] (n * 32)) 88

theorem run_pages (n : Nat) (hn : n ≤ 80) (w : World) : (Instr.makeSlice 59 (.int .i64 (n : Nat)) (.int .i64 (n : Nat))).run Tryz.prog w = .ok (.slice (some ⟨w.heap.size, 0, none⟩) n n) (w.alloc (nilPgs n)) := by
  obtain ⟨z0, hi0, hz0, hz1, hz2⟩ := info_parts Tryz.infoPg
  have := run_make (P := Tryz.prog) w 59 88 z0 _ Tryz.underlying59 hi0 hz0 .i64 .i64 (n : Nat) (n : Nat) (by omega) (Int.le_refl _) (by rw [hz2]; omega) (by omega)
  rw [hz1, Int.toNat_natCast] at this
  exact this

theorem pages_at (n : Nat) : PgsAt (w.alloc (nilPgs n)) w.heap.size n (fun _ => blank) := by
  refine ⟨fun i _ => blank_len, ⟨_, blk_alloc_new _ _, size_madeCells _ _, fun i hi => ?_⟩⟩
  have e : (madeCells #[.int .u8 0, .int .u8 0, .int .u8 0, .int .u8 0, .int .u8 0, .int .u8 0, .int .u8 0, .int .u8 0, .int .u8 0, .int .u8 0, .int .u8 0, .int .u8 0, .int .u8 0, .int .u8 0, .int .u8 0, .int .u8 0, .int .u8 0, .int .u8 0, .int .u8 0, .int .u8 0, .int .u8 0, .int .u8 0, .int .u8 0, .int .u8 0, .int .u8 0, .int .u8 0, .int .u8 0, .int .u8 0, .int .u8 0, .int .u8 0, .int .u8 0, .int .u8 0] (n * 32))[i]? = some ((#[.int .u8 0, .int .u8 0, .int .u8 0, .int .u8 0, .int .u8 0, .int .u8 0, .int .u8 0, .int .u8 0, .int .u8 0, .int .u8 0, .int .u8 0, .int .u8 0, .int .u8 0, .int .u8 0, .int .u8 0, .int .u8 0, .int .u8 0, .int .u8 0, .int .u8 0, .int .u8 0, .int .u8 0, .int .u8 0, .int .u8 0, .int .u8 0, .int .u8 0, .int .u8 0, .int .u8 0, .int .u8 0, .int .u8 0, .int .u8 0, .int .u8 0, .int .u8 0] : Array Value)[i % 32]!) := by
    simp [madeCells, hi]
  rw [e]
  have hb : (blank.getD (i % 32) 0) = 0 := by
    rw [List.getD_eq_getElem?_getD, blank, List.getElem?_replicate]
    split <;> rfl
  show _ = some (by1 (blank.getD (i % 32) 0))
  rw [hb]
  have hlt : i % 32 < 32 := Nat.mod_lt _ (by decide)
  have hz : (#[.int .u8 0, .int .u8 0, .int .u8 0, .int .u8 0, .int .u8 0, .int .u8 0, .int .u8 0, .int .u8 0, .int .u8 0, .int .u8 0, .int .u8 0, .int .u8 0, .int .u8 0, .int .u8 0, .int .u8 0, .int .u8 0, .int .u8 0, .int .u8 0, .int .u8 0, .int .u8 0, .int .u8 0, .int .u8 0, .int .u8 0, .int .u8 0, .int .u8 0, .int .u8 0, .int .u8 0, .int .u8 0, .int .u8 0, .int .u8 0, .int .u8 0, .int .u8 0] : Array Value) = Array.replicate 32 (.int .u8 0) := rfl
  rw [hz]
  simp [hlt, by1]

set_option maxRecDepth 100000 in
set_option maxHeartbeats 4000000 in
theorem l_new_no (k : Int) (hk : k < 1 ∨ 80 < k) : Calls Tryz.prog 6 #[.int .i64 k] w fun e w' => e = .returned (.tuple #[.pointer none, .iface 28 (.int .i64 1)]) ∧ w' = w := by
  by_cases h1 : k < 1
  · clear hk
    go_enter Tryz.func6, Tryz.ntmps6
    go_wp2_with fail
    go_ret2
    exact ⟨rfl, rfl⟩
  · have h2 : 80 < k := by omega
    clear hk
    go_enter Tryz.func6, Tryz.ntmps6
    go_wp2_with fail
    go_ret2
    exact ⟨rfl, rfl⟩

/-- A disk that was made, as it lies: two rows of pages, then its own cells. -/
theorem made_at (hn : 1 ≤ n ∧ n ≤ 80) {gn gk : Nat} (hg : (gn = w.heap.size ∧ gk = w.heap.size + 1) ∨ (gk = w.heap.size ∧ gn = w.heap.size + 1)) :
    ∃ F, Ex (((w.drew.alloc (nilPgs n)).alloc (nilPgs n)).alloc (.cells #[.slice (some ⟨gn, 0, none⟩) n n, .slice (some ⟨gk, 0, none⟩) n n, .slice none 0 0, .int .i64 (-1), .bool false] 62)) w.heap.size (w.heap.size + 2) n fresh F gn gk (.slice none 0 0) (-1) ∧
      Below w.heap.size w (((w.drew.alloc (nilPgs n)).alloc (nilPgs n)).alloc (.cells #[.slice (some ⟨gn, 0, none⟩) n n, .slice (some ⟨gk, 0, none⟩) n n, .slice none 0 0, .int .i64 (-1), .bool false] 62)) := by
  have p1 : PgsAt (w.drew.alloc (nilPgs n)) w.heap.size n (fun _ => blank) := pages_at (w := w.drew) n
  have p2 : PgsAt ((w.drew.alloc (nilPgs n)).alloc (nilPgs n)) (w.heap.size + 1) n (fun _ => blank) := by
    have := pages_at (w := w.drew.alloc (nilPgs n)) n
    rwa [show (w.drew.alloc (nilPgs n)).heap.size = w.heap.size + 1 by simp] at this
  obtain ⟨D, hD⟩ : ∃ D : Array Value, #[.slice (some ⟨gn, 0, none⟩) n n, .slice (some ⟨gk, 0, none⟩) n n, .slice none 0 0, .int .i64 (-1), .bool false] = D := ⟨_, rfl⟩
  have q1 : PgsAt (((w.drew.alloc (nilPgs n)).alloc (nilPgs n)).alloc (.cells D 62)) w.heap.size n (fun _ => blank) := ⟨p1.1, (p1.2.alloc _).alloc _⟩
  have q2 : PgsAt (((w.drew.alloc (nilPgs n)).alloc (nilPgs n)).alloc (.cells D 62)) (w.heap.size + 1) n (fun _ => blank) := ⟨p2.1, p2.2.alloc _⟩
  have hr : (((w.drew.alloc (nilPgs n)).alloc (nilPgs n)).alloc (.cells D 62)).rowIs (w.heap.size + 2) 62 5 (dcs gn gk n (.slice none 0 0) (-1) false) := by
    have := World.rowIs_alloc ((w.drew.alloc (nilPgs n)).alloc (nilPgs n)) D 62 (dcs gn gk n (.slice none 0 0) (-1) false) (fun i hi => by
      subst hD
      have : i = 0 ∨ i = 1 ∨ i = 2 ∨ i = 3 ∨ i = 4 := by simp at hi; omega
      rcases this with rfl | rfl | rfl | rfl | rfl <;> rfl)
    rwa [show D.size = 5 by subst hD; rfl, show ((w.drew.alloc (nilPgs n)).alloc (nilPgs n)).heap.size = w.heap.size + 2 by simp] at this
  have hb : Below w.heap.size w (((w.drew.alloc (nilPgs n)).alloc (nilPgs n)).alloc (.cells D 62)) := (((Below.refl _ _).drew.alloc (by simp) _).alloc (by simp) _).alloc (by simp; omega) _
  rw [hD]
  refine ⟨fun b => b = w.heap.size ∨ b = w.heap.size + 1 ∨ b = w.heap.size + 2, ⟨hr, ?_, ?_, ⟨World.ownsRow_nil .., fun y hy => by cases hy⟩, by omega, Or.inl rfl, by omega, by omega, fun k e => (by cases e), by omega, fun b e => ?_, hn, by omega⟩, hb⟩
  · rcases hg with ⟨e, _⟩ | ⟨_, e⟩ <;> rw [e]
    · exact q1
    · exact q2
  · rcases hg with ⟨_, e⟩ | ⟨e, _⟩ <;> rw [e]
    · exact q2
    · exact q1
  · simp
    omega

set_option maxRecDepth 100000 in
set_option maxHeartbeats 4000000 in
theorem l_new (n : Nat) (h1 : 1 ≤ n) (h2 : n ≤ 80) : Calls Tryz.prog 6 #[.int .i64 (n : Nat)] w fun e w' => ∃ kd, e = .returned (.tuple #[.pointer (some ⟨kd, 0, none⟩), .nilIface]) ∧ ∃ F gn gk, Ex w' w.heap.size kd n fresh F gn gk (.slice none 0 0) (-1) ∧ Below w.heap.size w w' := by
  have HP : Hid (∀ w, (Instr.makeSlice 59 (.int .i64 (n : Nat)) (.int .i64 (n : Nat))).run Tryz.prog w = .ok (.slice (some ⟨w.heap.size, 0, none⟩) n n) (w.alloc (nilPgs n))) := run_pages n h2
  have HA : Hid (∃ F, Ex (((w.drew.alloc (nilPgs n)).alloc (nilPgs n)).alloc (.cells #[.slice (some ⟨w.heap.size, 0, none⟩) n n, .slice (some ⟨w.heap.size + 1, 0, none⟩) n n, .slice none 0 0, .int .i64 (-1), .bool false] 62)) w.heap.size (w.heap.size + 2) n fresh F w.heap.size (w.heap.size + 1) (.slice none 0 0) (-1) ∧
      Below w.heap.size w (((w.drew.alloc (nilPgs n)).alloc (nilPgs n)).alloc (.cells #[.slice (some ⟨w.heap.size, 0, none⟩) n n, .slice (some ⟨w.heap.size + 1, 0, none⟩) n n, .slice none 0 0, .int .i64 (-1), .bool false] 62))) := made_at ⟨h1, h2⟩ (Or.inl ⟨rfl, rfl⟩)
  have HB : Hid (∃ F, Ex (((w.drew.alloc (nilPgs n)).alloc (nilPgs n)).alloc (.cells #[.slice (some ⟨w.heap.size + 1, 0, none⟩) n n, .slice (some ⟨w.heap.size, 0, none⟩) n n, .slice none 0 0, .int .i64 (-1), .bool false] 62)) w.heap.size (w.heap.size + 2) n fresh F (w.heap.size + 1) w.heap.size (.slice none 0 0) (-1) ∧
      Below w.heap.size w (((w.drew.alloc (nilPgs n)).alloc (nilPgs n)).alloc (.cells #[.slice (some ⟨w.heap.size + 1, 0, none⟩) n n, .slice (some ⟨w.heap.size, 0, none⟩) n n, .slice none 0 0, .int .i64 (-1), .bool false] 62))) := made_at ⟨h1, h2⟩ (Or.inr ⟨rfl, rfl⟩)
  have i0 : ¬ (n : Int) < 1 := by omega
  have i1 : ¬ (80 : Int) < (n : Int) := by omega
  obtain ⟨Z, hZ⟩ : ∃ Z, nilPgs n = Z := ⟨_, rfl⟩
  rw [hZ] at HP HA HB
  have hbd : ∀ (v1 v2 : Value), v1.cells.size = 1 → v2.cells.size = 1 → True := fun _ _ _ _ => trivial
  clear h1 h2 hZ hbd
  go_enter Tryz.func6, Tryz.ntmps6
  go_wp2_with fail
  clear i0 i1
  refine wp_region_noPanic ?_
  refine wp_region_held_drew (S := fun _ => True) (by kernel_rfl) trivial (fun hHeld => ?_)
  refine wpAnyH_take (i := 0) (oi := { dst := some 11, op := Go.Op.move (Go.Operand.tmp 0), type := 3, pos := _, after := #[], guard := none }) (v := ?va1) rfl (by kernel_rfl) (by kernel_rfl) (by kernel_rfl) (fun _ _ _ h => h) (Or.inl ⟨by rfl, ?ya1⟩) (by assumption) ?_
  case ya1 =>
    intro w hSw
    (try dsimp only at hSw)
    go_simp
    (try with_reducible rfl)
  simp only [Act.put, List.setIfInBounds_toArray, List.set_cons_zero, List.set_cons_succ]
  refine wpAnyH_take (i := 2) (oi := { dst := some 13, op := Go.Op.move (Go.Operand.tmp 0), type := 3, pos := _, after := #[], guard := none }) (v := ?va2) rfl (by kernel_rfl) (by kernel_rfl) (by kernel_rfl) (fun _ _ _ h => h) (Or.inl ⟨by rfl, ?ya2⟩) (by assumption) ?_
  case ya2 =>
    intro w hSw
    (try dsimp only at hSw)
    go_simp
    (try with_reducible rfl)
  simp only [Act.put, List.setIfInBounds_toArray, List.set_cons_zero, List.set_cons_succ]
  refine wpAnyH_ready (rs := [1, 3]) (by kernel_rfl) (by simp) ?_
  refine (AllReadyH.cons rfl (fun K9 hK9 => ?ca17) (AllReadyH.cons rfl (fun K9 hK9 => ?ca18) AllReadyH.nil))
  case ca17 =>
    refine step_run (v := .slice (some ⟨w.heap.size, 0, none⟩) n n) (w' := w.drew.alloc Z) ?ga3 ?ba3 ?_
    case ga3 => rfl
    case ba3 =>
      exact run_val (HP.out _)
    refine hK9.out _ _ trivial (fun hHeld => ?_)
    clear hK9
    (try simp only [List.getElem_toArray, List.getElem_cons_succ, List.getElem_cons_zero])
    (try simp only [Act.put, List.setIfInBounds_toArray, List.set_cons_zero, List.set_cons_succ])
    refine wpAnyH_ready (rs := [3]) (by kernel_rfl) (by simp) ?_
    refine (AllReadyH.cons rfl (fun K9 hK9 => ?ca9) AllReadyH.nil)
    case ca9 =>
      refine step_run (v := .slice (some ⟨w.heap.size + 1, 0, none⟩) n n) (w' := (w.drew.alloc Z).alloc Z) ?ga4 ?ba4 ?_
      case ga4 => rfl
      case ba4 =>
        have := HP.out (w.drew.alloc Z)
        rw [show (w.drew.alloc Z).heap.size = w.heap.size + 1 by simp] at this
        exact run_val this
      refine hK9.out _ _ trivial (fun hHeld => ?_)
      clear hK9
      (try simp only [List.getElem_toArray, List.getElem_cons_succ, List.getElem_cons_zero])
      (try simp only [Act.put, List.setIfInBounds_toArray, List.set_cons_zero, List.set_cons_succ])
      refine wpAnyH_take (i := 4) (oi := { dst := some 15, op := Go.Op.build 62 #[(0, Go.Operand.tmp 12), (1, Go.Operand.tmp 14), (3, Go.Operand.const (Go.Value.int Go.IntKind.i64 (-1)))], type := 62, pos := _, after := #[{ on := 1, ground := Go.Ground.data }, { on := 3, ground := Go.Ground.data }], guard := none }) (v := .agg #[.slice (some ⟨w.heap.size, 0, none⟩) n n, .slice (some ⟨w.heap.size + 1, 0, none⟩) n n, .slice none 0 0, .int .i64 (-1), .bool false]) rfl (by kernel_rfl) (by kernel_rfl) (by kernel_rfl) (fun _ _ _ h => h) ?ya5 (by assumption) ?_
      case ya5 => exact Or.inl ⟨by rfl, fun w _ => by simp only [execOp, List.map_toArray, List.map_cons, List.map_nil]; exact run_val (run_build w 62 _ _ (by kernel_rfl))⟩
      simp only [Act.put, List.setIfInBounds_toArray, List.set_cons_zero, List.set_cons_succ]
      refine wpAnyH_ready (rs := [5]) (by kernel_rfl) (by simp) ?_
      refine (AllReadyH.cons rfl (fun K9 hK9 => ?ca8) AllReadyH.nil)
      case ca8 =>
        go_simp
        refine hK9.out _ _ trivial (fun hHeld => ?_)
        clear hK9
        (try simp only [Act.put, List.setIfInBounds_toArray, List.set_cons_zero, List.set_cons_succ])
        refine wpAnyH_take (i := 6) (oi := { dst := some 2, op := Go.Op.assign (Go.Operand.tmp 16), type := 23, pos := _, after := #[{ on := 5, ground := Go.Ground.data }, { on := 0, ground := Go.Ground.phase }, { on := 1, ground := Go.Ground.phase }, { on := 2, ground := Go.Ground.phase }, { on := 3, ground := Go.Ground.phase }, { on := 4, ground := Go.Ground.phase }, { on := 5, ground := Go.Ground.phase }], guard := none }) (v := ?va6) rfl (by kernel_rfl) (by kernel_rfl) (by kernel_rfl) (fun _ _ _ h => h) (Or.inl ⟨by rfl, ?ya6⟩) (by assumption) ?_
        case ya6 =>
          intro w hSw
          (try dsimp only at hSw)
          go_simp
          (try with_reducible rfl)
        simp only [Act.put, List.setIfInBounds_toArray, List.set_cons_zero, List.set_cons_succ]
        refine wpAnyH_take (i := 7) (oi := { dst := some 3, op := Go.Op.assign (Go.Operand.const Go.Value.nilIface), type := 25, pos := _, after := #[{ on := 6, ground := Go.Ground.chain }, { on := 0, ground := Go.Ground.phase }, { on := 1, ground := Go.Ground.phase }, { on := 2, ground := Go.Ground.phase }, { on := 3, ground := Go.Ground.phase }, { on := 4, ground := Go.Ground.phase }, { on := 5, ground := Go.Ground.phase }, { on := 6, ground := Go.Ground.phase }], guard := none }) (v := ?va7) rfl (by kernel_rfl) (by kernel_rfl) (by kernel_rfl) (fun _ _ _ h => h) (Or.inl ⟨by rfl, ?ya7⟩) (by assumption) ?_
        case ya7 =>
          intro w hSw
          (try dsimp only at hSw)
          go_simp
          (try with_reducible rfl)
        simp only [Act.put, List.setIfInBounds_toArray, List.set_cons_zero, List.set_cons_succ]
        refine wpAnyH_done (by kernel_rfl) ?_ _
        refine NoPanic.normal ?_
        go_wp2_with fail
        go_ret2
        exact ⟨_, rfl, by obtain ⟨F, e1, e2⟩ := HA.out; exact ⟨F, _, _, e1, e2⟩⟩
  case ca18 =>
    refine step_run (v := .slice (some ⟨w.heap.size, 0, none⟩) n n) (w' := w.drew.alloc Z) ?ga10 ?ba10 ?_
    case ga10 => rfl
    case ba10 =>
      exact run_val (HP.out _)
    refine hK9.out _ _ trivial (fun hHeld => ?_)
    clear hK9
    (try simp only [List.getElem_toArray, List.getElem_cons_succ, List.getElem_cons_zero])
    (try simp only [Act.put, List.setIfInBounds_toArray, List.set_cons_zero, List.set_cons_succ])
    refine wpAnyH_ready (rs := [1]) (by kernel_rfl) (by simp) ?_
    refine (AllReadyH.cons rfl (fun K9 hK9 => ?ca16) AllReadyH.nil)
    case ca16 =>
      refine step_run (v := .slice (some ⟨w.heap.size + 1, 0, none⟩) n n) (w' := (w.drew.alloc Z).alloc Z) ?ga11 ?ba11 ?_
      case ga11 => rfl
      case ba11 =>
        have := HP.out (w.drew.alloc Z)
        rw [show (w.drew.alloc Z).heap.size = w.heap.size + 1 by simp] at this
        exact run_val this
      refine hK9.out _ _ trivial (fun hHeld => ?_)
      clear hK9
      (try simp only [List.getElem_toArray, List.getElem_cons_succ, List.getElem_cons_zero])
      (try simp only [Act.put, List.setIfInBounds_toArray, List.set_cons_zero, List.set_cons_succ])
      refine wpAnyH_take (i := 4) (oi := { dst := some 15, op := Go.Op.build 62 #[(0, Go.Operand.tmp 12), (1, Go.Operand.tmp 14), (3, Go.Operand.const (Go.Value.int Go.IntKind.i64 (-1)))], type := 62, pos := _, after := #[{ on := 1, ground := Go.Ground.data }, { on := 3, ground := Go.Ground.data }], guard := none }) (v := .agg #[.slice (some ⟨w.heap.size + 1, 0, none⟩) n n, .slice (some ⟨w.heap.size, 0, none⟩) n n, .slice none 0 0, .int .i64 (-1), .bool false]) rfl (by kernel_rfl) (by kernel_rfl) (by kernel_rfl) (fun _ _ _ h => h) ?ya12 (by assumption) ?_
      case ya12 => exact Or.inl ⟨by rfl, fun w _ => by simp only [execOp, List.map_toArray, List.map_cons, List.map_nil]; exact run_val (run_build w 62 _ _ (by kernel_rfl))⟩
      simp only [Act.put, List.setIfInBounds_toArray, List.set_cons_zero, List.set_cons_succ]
      refine wpAnyH_ready (rs := [5]) (by kernel_rfl) (by simp) ?_
      refine (AllReadyH.cons rfl (fun K9 hK9 => ?ca15) AllReadyH.nil)
      case ca15 =>
        go_simp
        refine hK9.out _ _ trivial (fun hHeld => ?_)
        clear hK9
        (try simp only [Act.put, List.setIfInBounds_toArray, List.set_cons_zero, List.set_cons_succ])
        refine wpAnyH_take (i := 6) (oi := { dst := some 2, op := Go.Op.assign (Go.Operand.tmp 16), type := 23, pos := _, after := #[{ on := 5, ground := Go.Ground.data }, { on := 0, ground := Go.Ground.phase }, { on := 1, ground := Go.Ground.phase }, { on := 2, ground := Go.Ground.phase }, { on := 3, ground := Go.Ground.phase }, { on := 4, ground := Go.Ground.phase }, { on := 5, ground := Go.Ground.phase }], guard := none }) (v := ?va13) rfl (by kernel_rfl) (by kernel_rfl) (by kernel_rfl) (fun _ _ _ h => h) (Or.inl ⟨by rfl, ?ya13⟩) (by assumption) ?_
        case ya13 =>
          intro w hSw
          (try dsimp only at hSw)
          go_simp
          (try with_reducible rfl)
        simp only [Act.put, List.setIfInBounds_toArray, List.set_cons_zero, List.set_cons_succ]
        refine wpAnyH_take (i := 7) (oi := { dst := some 3, op := Go.Op.assign (Go.Operand.const Go.Value.nilIface), type := 25, pos := _, after := #[{ on := 6, ground := Go.Ground.chain }, { on := 0, ground := Go.Ground.phase }, { on := 1, ground := Go.Ground.phase }, { on := 2, ground := Go.Ground.phase }, { on := 3, ground := Go.Ground.phase }, { on := 4, ground := Go.Ground.phase }, { on := 5, ground := Go.Ground.phase }, { on := 6, ground := Go.Ground.phase }], guard := none }) (v := ?va14) rfl (by kernel_rfl) (by kernel_rfl) (by kernel_rfl) (fun _ _ _ h => h) (Or.inl ⟨by rfl, ?ya14⟩) (by assumption) ?_
        case ya14 =>
          intro w hSw
          (try dsimp only at hSw)
          go_simp
          (try with_reducible rfl)
        simp only [Act.put, List.setIfInBounds_toArray, List.set_cons_zero, List.set_cons_succ]
        refine wpAnyH_done (by kernel_rfl) ?_ _
        refine NoPanic.normal ?_
        go_wp2_with fail
        go_ret2
        exact ⟨_, rfl, by obtain ⟨F, e1, e2⟩ := HB.out; exact ⟨F, _, _, e1, e2⟩⟩

/-- The landed disk, as the statements meet it. -/
def Fc : Face := fun w B d n s F => ∃ kd, d = .pointer (some ⟨kd, 0, none⟩) ∧ ∃ gn gk R x, Ex w B kd n s F gn gk R x

theorem disk_ok : DiskOk Fc where
  keep := fun ⟨kd, e, gn, gk, R, x, h⟩ hs hb => ⟨kd, e, gn, gk, R, x, h.keep hs hb⟩
  own := fun ⟨kd, e, gn, gk, R, x, h⟩ => h.own
  new_no := fun k hk => (l_new_no k hk).mono fun e w' ⟨h1, h2⟩ => ⟨h1, h2 ▸ Below.refl _ _⟩
  new_ok := fun n h1 h2 => (l_new n h1 h2).mono fun e w' ⟨kd, e1, F, gn, gk, e2, e3⟩ => ⟨_, F, e1, ⟨kd, rfl, gn, gk, _, _, e2⟩, e3⟩
  write := by
    rintro w B n d s F a l c k ⟨kd, rfl, gn, gk, R, x, h⟩ hB ha hc hc2 hF hnil hw
    exact (l_write h hB hw k ha hc hc2 hnil hF).mono fun e w' ⟨v, e1, x', e2, s', e3, F', ⟨R', y, e4⟩, e5, e6⟩ => ⟨v, x', s', F', e1, e2, e3, ⟨kd, rfl, gn, gk, R', y, e4⟩, e5, e6⟩
  sync := by
    rintro w B n d s F ⟨kd, rfl, gn, gk, R, x, h⟩ hB
    exact (l_sync h).mono fun e w' ⟨v, e1, x', e2, s', e3, ⟨R', y, e4⟩, e6⟩ => ⟨v, x', s', F, e1, e2, e3, ⟨kd, rfl, gn, gk, R', y, e4⟩, fun b q => Or.inl q, e6⟩
  crash := by
    rintro w B n d s F a m c f ⟨kd, rfl, gn, gk, R, x, h⟩ hB ha hc hc2 hF hw
    exact (l_crash h hw ha hc hc2 hF).mono fun e w' ⟨e1, ⟨R', y, e4⟩, e6⟩ => ⟨F, e1, ⟨kd, rfl, gn, gk, R', y, e4⟩, fun b q => Or.inl q, e6⟩
  read_ok := by
    rintro w B n d s F i ⟨kd, rfl, gn, gk, R, x, h⟩ hB hi
    exact l_read h hi
  read_32 := by
    rintro w B n d s F i ⟨kd, rfl, gn, gk, R, x, h⟩ hB hi
    exact l_read32 h hi
  read_no := by
    rintro w B n d s F i ⟨kd, rfl, gn, gk, R, x, h⟩ hi
    exact (l_read_no h i hi).mono fun e w' ⟨h1, h2⟩ => ⟨h1, h2 ▸ Below.refl _ _⟩
  fail := by
    rintro w B n d s F k ⟨kd, rfl, gn, gk, R, x, h⟩ hB hk
    exact (l_fail h k hk).mono fun e w' ⟨e1, e2, e3⟩ => ⟨e1, ⟨kd, rfl, gn, gk, R, k, e2⟩, e3⟩
  pages := by
    rintro w B n d s F ⟨kd, rfl, gn, gk, R, x, h⟩
    exact (l_pages h).mono fun e w' ⟨h1, h2⟩ => ⟨h1, h2 ▸ Below.refl _ _⟩

end Go.Proofs.YtcfemppdeidjmacGreatDoor.Dk.L

namespace Go.Proofs.YtcfemppdeidjmacGreatDoor.Sk
open Go.RowKit Go.Deep Go.Proofs.YtcfemppdeidjmacGreatDoor.Dk
open Go.RowKit (Below)
set_option linter.unusedVariables false

variable {w w' : World} {B n t : Nat} {d s : Value} {S S' : St} {F F' FD : Nat → Prop} {l x : List UInt8} {g : Option Nat}

/-- How many steps are left, as a number. -/
def lf : Option Nat → Int
  | none => -1
  | some k => (k : Int)
def gl (z : Int) : Option Nat := if z < 0 then none else some z.toNat
theorem lf_gl {z : Int} (h : -1 ≤ z) : lf (gl z) = z := by
  unfold gl
  split
  · show (-1 : Int) = z; omega
  · show ((z.toNat : Nat) : Int) = z; omega
theorem gl_none {z : Int} (h : z = -1) : gl z = none := by rw [h]; rfl
theorem lf_given (k : Int) : (if k < 0 then -1 else k) = lf (given k) := by
  unfold given
  split
  · rfl
  · show k = ((k.toNat : Nat) : Int); omega

def rawF (w : World) (B : Nat) (d : Value) (n : Nat) (F : Nat → Prop) : Prop := Dk.L.Fc w B d n fresh F ∧ 1 ≤ n
def keptF (w : World) (B : Nat) (d : Value) (n : Nat) (l : List UInt8) (t : Nat) (F : Nat → Prop) : Prop :=
  ∃ S h, Dk.L.Fc w B d n S F ∧ Rest S h l t ∧ S.left = -1 ∧ 62 ≤ n
def onF (w : World) (B : Nat) (d : Value) (n : Nat) (s : Value) (l : List UInt8) (t : Nat) (g : Option Nat) (F : Nat → Prop) : Prop :=
  ∃ ks ba bc S h FD, s = .pointer (some ⟨ks, 0, none⟩) ∧ SEx Dk.L.Fc w B d n ks ba bc l t false S FD F ∧ Rest S h l t ∧ S.left = lf g ∧ 62 ≤ n
def offF (w : World) (B : Nat) (d : Value) (n : Nat) (s : Value) (l : List UInt8) (t : Nat) (x : List UInt8) (F : Nat → Prop) : Prop :=
  ∃ ks ba bc S FD, s = .pointer (some ⟨ks, 0, none⟩) ∧ SEx Dk.L.Fc w B d n ks ba bc l t true S FD F ∧ Torn S l t x ∧ 62 ≤ n

/-- The landed store's face. -/
def face : Face := ⟨rawF, keptF, onF, offF⟩

theorem rest_failing {h : Nat} (R : Rest S h l t) (k : Int) : Rest (failing S k) h l t :=
  ⟨R.wr, R.kept, R.good, R.h1, R.down, by show -1 ≤ (if k < 0 then -1 else k); split <;> omega⟩
theorem rest_crashed {h : Nat} (R : Rest S h l t) (q : Nat → Bool) : Rest (crashed S q) h l t := by
  have e : play q 0 S.wr S.kept = S.now := by rw [R.wr, ← R.kept]; rfl
  exact ⟨rfl, rfl, by show Good (play q 0 S.wr S.kept) h l t; rw [e]; exact R.good, R.h1, rfl, by show (-1 : Int) ≤ -1; omega⟩

theorem store_ok : StoreOk face where
  raw_keep := fun h h1 h2 => ⟨Dk.L.disk_ok.keep h.1 h1 h2, h.2⟩
  kept_keep := fun ⟨S, h, h1, h2⟩ q1 q2 => ⟨S, h, Dk.L.disk_ok.keep h1 q1 q2, h2⟩
  on_keep := fun ⟨ks, ba, bc, S, h, FD, e, h1, h2⟩ q1 q2 => ⟨ks, ba, bc, S, h, FD, e, h1.keep Dk.L.disk_ok q1 q2, h2⟩
  off_keep := fun ⟨ks, ba, bc, S, FD, e, h1, h2⟩ q1 q2 => ⟨ks, ba, bc, S, FD, e, h1.keep Dk.L.disk_ok q1 q2, h2⟩
  raw_own := fun h => Dk.L.disk_ok.own h.1
  kept_own := fun ⟨S, h, h1, h2⟩ => Dk.L.disk_ok.own h1
  on_own := fun ⟨ks, ba, bc, S, h, FD, e, h1, h2⟩ => h1.owns Dk.L.disk_ok
  off_own := fun ⟨ks, ba, bc, S, FD, e, h1, h2⟩ => h1.owns Dk.L.disk_ok
  new_no := fun k hk => Dk.L.disk_ok.new_no k hk
  new_ok := fun n h1 h2 => (Dk.L.disk_ok.new_ok n h1 h2).mono fun e w' ⟨d, F, e1, e2, e3⟩ => ⟨d, F, e1, ⟨e2, h1⟩, e3⟩
  open_no := fun h hB => open_none Dk.L.disk_ok h.1 hB h.2
  format_no := fun h hB hn => format_few Dk.L.disk_ok h.1 hn
  format_ok := fun h hB hn => (format_any Dk.L.disk_ok h.1 ⟨rfl, rfl, rfl⟩ hB hn).mono fun e w' ⟨S', F', e1, e2, e3, e4, e5⟩ => ⟨F', e1, ⟨S', 0, e2, e3.1, e3.2, hn⟩, e4, e5⟩
  format_kept := fun ⟨S, h, h1, h2, h3, h4⟩ hB => (format_any Dk.L.disk_ok h1 ⟨h2.wr, h2.down, h3⟩ hB h4).mono fun e w' ⟨S', F', e1, e2, e3, e4, e5⟩ => ⟨F', e1, ⟨S', 0, e2, e3.1, e3.2, h4⟩, e4, e5⟩
  rest := fun ⟨ks, ba, bc, S, h, FD, e, h1, h2, h3, h4⟩ => ⟨FD, ⟨S, h, h1.disk, h2, h3, h4⟩, fun b q => (h1.f b).2 (Or.inl q)⟩
  open_ok := by
    rintro w B n t d l F ⟨S, h, h1, h2, h3, h4⟩ hB hl ht
    obtain ⟨kd, rfl⟩ : ∃ kd, d = .pointer (some ⟨kd, 0, none⟩) := by
      obtain ⟨kd, e, _⟩ := h1
      exact ⟨kd, e⟩
    exact (open_any Dk.L.disk_ok h1 hB h4 h2 hl (by omega)).mono fun e w' ⟨ks, e1, ba, bc, F', e2, e3, e4⟩ => ⟨_, F', e1, ⟨ks, ba, bc, S, h, F, rfl, e2, h2, h3, h4⟩, e3, e4⟩
  save_full := by
    rintro w B n t d s l g F a x c ⟨ks, ba, bc, S, h, FD, rfl, h1, h2, h3, h4⟩ hB ha hc hc2 hx
    exact (save_full hx).mono fun e w' ⟨e1, e2⟩ => ⟨F, e1, e2 ▸ ⟨ks, ba, bc, S, h, FD, rfl, h1, h2, h3, h4⟩, fun b q => Or.inl q, by rw [e2]; exact Turn.refl w⟩
  save := by
    rintro w B n t d s l g F a x c ⟨ks, ba, bc, S, h, FD, rfl, h1, h2, h3, h4⟩ hB ha hc hc2 hnil hF hx hl ht
    refine (save_any Dk.L.disk_ok h1 hB h4 h2 ht ha hc hc2 hnil hF hx).mono ?_
    rintro e w' ⟨v, rfl, S', FD', F', ba', bc', hor, hf, htn⟩
    refine ⟨F', ?_, hf, htn⟩
    rcases hor with ⟨rfl, g1, g2, g3⟩ | ⟨rfl, g1, g2, g3⟩
    · refine Or.inl ⟨gl S'.left, rfl, ⟨ks, ba', bc', S', 1 - h, FD', rfl, g3, g1, (lf_gl g1.left).symm, h4⟩, fun q => gl_none (g2 (by rw [h3, q]; rfl))⟩
    · exact Or.inr ⟨rfl, fun q => g1 (by rw [h3, q]; rfl), ⟨ks, ba', bc', S', FD', rfl, g3, g2, h4⟩⟩
  save_off := by
    rintro w B n t d s l x F ⟨ks, ba, bc, S, FD, rfl, h1, h2, h4⟩ hB
    exact (save_down h1).mono fun e w' ⟨e1, e2⟩ => ⟨F, e1, e2 ▸ ⟨ks, ba, bc, S, FD, rfl, h1, h2, h4⟩, fun b q => Or.inl q, by rw [e2]; exact Turn.refl w⟩
  load_on := by
    rintro w B n t d s l g F ⟨ks, ba, bc, S, h, FD, rfl, h1, h2⟩ hB
    exact load_any h1
  load_off := by
    rintro w B n t d s l x F ⟨ks, ba, bc, S, FD, rfl, h1, h2⟩ hB
    exact (load_any h1).mono fun e w' ⟨a, c, e1, e2, _, e3⟩ => ⟨a, c, e1, e2, e3⟩
  turn_on := by
    rintro w B n t d s l g F ⟨ks, ba, bc, S, h, FD, rfl, h1, h2⟩ hB
    exact (turn_any h1).mono fun e w' ⟨e1, e2⟩ => ⟨e1, e2 ▸ Below.refl _ _⟩
  turn_off := by
    rintro w B n t d s l x F ⟨ks, ba, bc, S, FD, rfl, h1, h2⟩ hB
    exact (turn_any h1).mono fun e w' ⟨e1, e2⟩ => ⟨e1, e2 ▸ Below.refl _ _⟩
  fail := by
    rintro w B n t d s l g F k ⟨ks, ba, bc, S, h, FD, rfl, h1, h2, h3, h4⟩ hB hk
    refine (Dk.L.disk_ok.fail k h1.disk hB hk).mono ?_
    rintro e w' ⟨rfl, hd, ht⟩
    obtain ⟨F', g1, g2, g3⟩ := h1.turn Dk.L.disk_ok hd (fun b q => Or.inl q) ht
    exact ⟨F', rfl, ⟨ks, ba, bc, _, h, FD, rfl, g1, rest_failing h2 k, lf_given k, h4⟩, g2, g3⟩
  crash_on := by
    rintro w B n t d s l g F a m c f ⟨ks, ba, bc, S, h, FD, rfl, h1, h2, h3, h4⟩ hB ha hc hc2 hF
    refine (Dk.L.disk_ok.crash h1.disk hB ha hc hc2 (fun hm b o e q => hF hm b o e ((h1.f b).2 (Or.inl q))) (by rw [h2.wr]; simp)).mono ?_
    rintro e w' ⟨F', rfl, hd, hf, ht⟩
    exact ⟨F', rfl, ⟨_, h, hd, rest_crashed h2 _, rfl, h4⟩, fun b q => (hf b q).imp (fun q => (h1.f b).2 (Or.inl q)) id, ht.mono fun b _ q => (h1.f b).2 (Or.inl q)⟩
  crash_off := by
    rintro w B n t d s l x F a m c f ⟨ks, ba, bc, S, FD, rfl, h1, h2, h4⟩ hB ha hc hc2 hF
    refine (Dk.L.disk_ok.crash h1.disk hB ha hc hc2 (fun hm b o e q => hF hm b o e ((h1.f b).2 (Or.inl q))) (by have := h2.wr; omega)).mono ?_
    rintro e w' ⟨F', rfl, hd, hf, ht⟩
    refine ⟨F', rfl, ?_, fun b q => (hf b q).imp (fun q => (h1.f b).2 (Or.inl q)) id, ht.mono fun b _ q => (h1.f b).2 (Or.inl q)⟩
    rcases h2.any (among m f) with ⟨h, q1, q2⟩ | ⟨h, q1, q2⟩
    · exact Or.inl ⟨_, h, hd, ⟨rfl, rfl, q2, q1, rfl, by show (-1 : Int) ≤ -1; omega⟩, rfl, h4⟩
    · exact Or.inr ⟨_, h, hd, ⟨rfl, rfl, q2, q1, rfl, by show (-1 : Int) ≤ -1; omega⟩, rfl, h4⟩

end Go.Proofs.YtcfemppdeidjmacGreatDoor.Sk
