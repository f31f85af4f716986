/-
  bytes.Clone and bytes.Equal, as they stand in this program.
-/
import Derived.Shelf.Bytes.SlClone
import Derived.Shelf.Bytes.SlEqualAll
import Derived.Test.YtcfemppdeidjmacGreatProg
namespace Go.Proofs
open Go.Shelf
def Tryz.lays4_ren : Go.Shelf.Ren := ⟨fun | 4 => 119 | n => n, fun | 22 => 74 | 4 => 4 | 5 => 5 | n => n, fun | n => n⟩
theorem Tryz.lays4 : Go.Proofs.SlLaysK.n4 Tryz.prog Tryz.lays4_ren := {
  mixed := by kernel_rfl
  f4 := Tryz.func119.trans (congrArg some (by kernel_rfl))
  t4 := Tryz.underlying4
  a4 := Tryz.isAgg4
  z4 := Tryz.sizeOf4
  v4 := Tryz.zeroValue4
  t22 := Tryz.underlying74
  a22 := Tryz.isAgg74
  z22 := Tryz.sizeOf74
  v22 := Tryz.zeroValue74
  t5 := Tryz.underlying5
  i5 := by kernel_rfl }
def Tryz.lays115_ren : Go.Shelf.Ren := ⟨fun | 115 => 199 | n => n, fun | 37 => 74 | 4 => 4 | 9 => 9 | 5 => 5 | n => n, fun | n => n⟩
theorem Tryz.lays115 : Go.Proofs.Lays.nb115 Tryz.prog Tryz.lays115_ren := {
  mixed := by kernel_rfl
  f115 := Tryz.func199.trans (congrArg some (by kernel_rfl))
  t4 := Tryz.underlying4
  a4 := Tryz.isAgg4
  z4 := Tryz.sizeOf4
  v4 := Tryz.zeroValue4
  t9 := Tryz.underlying9
  a9 := Tryz.isAgg9
  z9 := Tryz.sizeOf9
  v9 := Tryz.zeroValue9
  t37 := Tryz.underlying74
  a37 := Tryz.isAgg74
  z37 := Tryz.sizeOf74
  v37 := Tryz.zeroValue74
  t5 := Tryz.underlying5
  a5 := Tryz.isAgg5
  z5 := Tryz.sizeOf5
  v5 := Tryz.zeroValue5 }
end Go.Proofs
