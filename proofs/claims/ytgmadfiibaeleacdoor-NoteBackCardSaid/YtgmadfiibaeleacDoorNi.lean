/-
  Edges as bytes: what the statements' own BytesOf tells.
-/
import Derived.Test.YtgmadfiibaeleacDoorNh
namespace Go.Proofs.YtgmadfiibaeleacDoor.Nt
open Go.RowKit Go.Deep Go.Proofs.YtgmadfiibaeleacDoor.Br
open Go.RowKit (Below)
set_option linter.unusedVariables false

variable {w w' : World} {f : Nat → Int × Int} {m n : Nat}

theorem Tryd.infoU8 : (Tryd.prog.info? 5).map (fun i => (i.zero, i.size, i.bytes)) = some (some (.int .u8 0), 1, 1) := by kernel_rfl

def by1 (c : UInt8) : Value := .int .u8 (c.toNat : Int)
def bys (l : List UInt8) : List Value := l.map by1
theorem bys_len (l : List UInt8) : (bys l).length = l.length := by simp [bys]
theorem bys_app (l r : List UInt8) : bys (l ++ r) = bys l ++ bys r := by simp [bys]

/-- An edge's two bytes. -/
def eb (f : Nat → Int × Int) (i : Nat) : List UInt8 := [UInt8.ofNat (f i).1.toNat, UInt8.ofNat (f i).2.toNat]
/-- The bytes as far as the first j edges. -/
def bt (n m : Nat) (f : Nat → Int × Int) (j : Nat) : List UInt8 := UInt8.ofNat n :: UInt8.ofNat m :: (List.range j).flatMap (eb f)

theorem bt_succ (j : Nat) : bt n m f (j + 1) = bt n m f j ++ eb f j := by simp [bt, List.range_succ]
theorem bt_len (j : Nat) : (bt n m f j).length = 2 + 2 * j := by
  induction j with
  | zero => rfl
  | succ j ih => rw [bt_succ, List.length_append, ih]; simp [eb]; omega

theorem two_bytes (w : World) (x y : Int) : ∀ j u, [Value.int .u8 x, Value.int .u8 y][j]? = some u → (w.alloc (.cells #[.int .u8 x, .int .u8 y] 5)).cell? (Addr.add ⟨w.heap.size, 0, none⟩ j) = some u := fun j u hj => by
  match j, hj with
  | 0, hj => cases hj; simp [Addr.add]
  | 1, hj => cases hj; simp [Addr.add]

/-- A row of two bytes that has just been made. -/
theorem own_two_bytes (w : World) (x y : Int) : (w.alloc (.cells #[.int .u8 x, .int .u8 y] 5)).ownsRow w.heap.size 5 1 (.slice (some ⟨w.heap.size, 0, none⟩) 2 2) 2 [.int .u8 x, .int .u8 y] :=
  ⟨rfl, Or.inr ⟨w.heap.size, 2, #[.int .u8 x, .int .u8 y], rfl, Nat.le_refl _, heap_alloc_new _ _, Nat.le_refl _, by decide, rfl, rfl⟩⟩

theorem own_heapB {base e s n : Nat} {v : Value} {xs : List Value} (h : w.ownsRow base e s v n xs) {k : Nat} (hk : v.ownBlock = some k) : base ≤ k ∧ k < w.heap.size := h.lt k hk

/-- What an edge that may be holds. -/
theorem may_num {j : Nat} (hv : Valid (n : Nat) m f) (hj : j < m) : ∃ X Y : Nat, (f j).1 = (X : Nat) ∧ (f j).2 = (Y : Nat) ∧ X < 60 ∧ Y < 60 ∧ eb f j = [UInt8.ofNat X, UInt8.ofNat Y] := by
  have h := (hv.2.2 j hj).1
  unfold Sane at h
  have hn := hv.1
  refine ⟨(f j).1.toNat, (f j).2.toNat, by omega, by omega, by omega, by omega, rfl⟩

end Go.Proofs.YtgmadfiibaeleacDoor.Nt
