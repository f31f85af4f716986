/-
  DiskPlays returns true, whatever comes in.
-/
import Derived.Test.YtclheepbojogfacDoorDn
namespace Go.Proofs.YtclheepbojogfacDoor.Dk
open Go.RowKit Go.Deep
open Go.RowKit (Below)
set_option linter.unusedVariables false

theorem disk_plays {w : World} {D : Face} (O : DiskOk D) (h0 : ErrType w) {a : Option Addr} {m c : Nat} {f : Nat → Stp} (hs : ScAt w a m f) (hmc : m ≤ c) (hcm : c ≤ maxLen) (p : Int) :
    Calls Tryd.prog 4 #[.int .i64 p, .slice a m c] w fun e w' => e = .returned (.bool true) ∧ Below w.heap.size w w' := by
  by_cases hp : p < 1 ∨ 80 < p
  · exact plays_no O h0 p hp
  · obtain ⟨n, rfl⟩ := Int.eq_ofNat_of_zero_le (show 0 ≤ p by omega)
    exact plays_ok O h0 hs hmc hcm n (by omega) (by omega)

end Go.Proofs.YtclheepbojogfacDoor.Dk
