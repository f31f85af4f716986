/-
  Bytes as a text; the bytes that StoreKeeps begins with.
-/
import Derived.Test.YtdbebeemhomjkacDoorEb
import Derived.Test.YtdbebeemhomjkacDoorTold
import Derived.Laws.IdiomStrings
import Derived.Laws.BytesArg
import Derived.Lib.SlBytesConst
namespace Go.Proofs.YtdbebeemhomjkacDoor.Sk
open Go.RowKit Go.Deep Go.Proofs.YtdbebeemhomjkacDoor.Dk
open Go.RowKit (Below)
set_option linter.unusedVariables false

variable {w w' wr : World} {D : Face} {B n t : Nat} {d s : Value} {l x : List UInt8} {g : Option Nat} {X : Nat → Prop}

/-- Bytes as a text. -/
theorem conv_any {a : Option Addr} {c : Nat} (h : BtAt w a l) : (convert 31 9 (.slice a l.length c)).run Tryd.prog w = .ok (.string (str l)) w := by
  cases l with
  | nil =>
    cases a with
    | none => exact run_convert_bytes_nil (P := Tryd.prog) (w := w) 31 5 Tryd.underlying31 Tryd.underlying5 0 c 9 Tryd.underlying9
    | some a => exact run_convert_bytes_back (P := Tryd.prog) w 31 9 5 a c [] Tryd.underlying31 Tryd.underlying5 Tryd.underlying9 (fun j hj => absurd hj (Nat.not_lt_zero _))
  | cons y ys =>
    obtain ⟨b, o, rfl, -⟩ := h 0 (Nat.succ_pos _)
    refine run_convert_bytes_back (P := Tryd.prog) w 31 9 5 ⟨b, o, none⟩ c (y :: ys) Tryd.underlying31 Tryd.underlying5 Tryd.underlying9 (fun j hj => ?_)
    obtain ⟨b', o', e, hc⟩ := h j hj
    simp only [Option.some.injEq, Addr.mk.injEq, and_true] at e
    obtain ⟨rfl, rfl⟩ := e
    rw [List.getD_eq_getElem?_getD, List.getElem?_eq_getElem hj] at hc
    rw [Addr.add_lit]
    exact hc

theorem hi_bytes (w : World) : BtAt (w.alloc (.cells #[.int .u8 104, .int .u8 105] 5 (2, 3))) (some ⟨w.heap.size, 0, none⟩) [104, 105] := fun i hi => by
  have hb : (w.alloc (.cells #[.int .u8 104, .int .u8 105] 5 (2, 3))).heap[w.heap.size]? = some (.cells #[.int .u8 104, .int .u8 105] 5 (2, 3)) := by
    show (w.heap.push _)[w.heap.size]? = _
    simp
  have : i = 0 ∨ i = 1 := by simp at hi; omega
  rcases this with rfl | rfl
  · exact ⟨w.heap.size, 0, rfl, by simp only [World.cell?, hb]; rfl⟩
  · exact ⟨w.heap.size, 0, rfl, by simp only [World.cell?, hb]; rfl⟩

theorem toList_ne {a b : ByteArray} (h : ¬ a = b) : ¬ a.toList = b.toList := fun e => h (by
  rw [ByteArray.toList_eq, ByteArray.toList_eq] at e
  cases a
  cases b
  exact congrArg ByteArray.mk (Array.toList_inj.1 e))

end Go.Proofs.YtdbebeemhomjkacDoor.Sk
