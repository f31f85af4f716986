/-
  StoreKeeps returns true, whatever packages store and disk that answer as they are to.
-/
import Derived.Test.YtdbebeemhomjkacDoorEg
namespace Go.Proofs.YtdbebeemhomjkacDoor.Sk
open Go.RowKit Go.Deep Go.Proofs.YtdbebeemhomjkacDoor.Dk
open Go.RowKit (Below)
set_option linter.unusedVariables false

theorem store_keeps {w : World} {D : Face} (O : StoreOk D) (h0 : ErrType w) {a : Option Addr} {m c : Nat} {f : Nat → Stp} (hs : ScAt w a m f) (p : Int) :
    Calls Tryd.prog 5 #[.int .i64 p, .slice a m c] w fun e w' => e = .returned (.bool true) ∧ Below w.heap.size w w' := by
  by_cases hp : p < 1 ∨ 80 < p
  · exact keeps_no O h0 p hp
  · obtain ⟨n, rfl⟩ := Int.eq_ofNat_of_zero_le (show 0 ≤ p by omega)
    by_cases hn : n < 62
    · exact keeps_few O h0 n ⟨by omega, hn⟩
    · exact keeps_go O h0 hs n ⟨by omega, by omega⟩

end Go.Proofs.YtdbebeemhomjkacDoor.Sk
