/-
  Na
-/
import Derived.Test.YtcfemppdeidjmacGreatW4
namespace Go.Proofs.YtcfemppdeidjmacGreat.Nt
set_option linter.unusedVariables false

theorem u8_of {n : Nat} (h : n < 256) : (UInt8.ofNat n).toNat = n := by simp [UInt8.toNat_ofNat']; omega
def glue (c : UInt8) : List (List UInt8) → List (List UInt8)
  | [] => [[c]]
  | p :: ps => (c :: p) :: ps

def pieces : List UInt8 → List (List UInt8)
  | [] => [[]]
  | c :: r => if c = 32 then [] :: pieces r else glue c (pieces r)

end Go.Proofs.YtcfemppdeidjmacGreat.Nt
