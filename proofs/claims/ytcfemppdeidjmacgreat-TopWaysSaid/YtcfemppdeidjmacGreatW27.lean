/-
  Kb
-/
import Derived.Test.YtcfemppdeidjmacGreatW26
import Derived.Test.YtcfemppdeidjmacGreatW24
namespace Go.Proofs.YtcfemppdeidjmacGreat.Sp
open Go.RowKit Go.Deep
set_option linter.unusedVariables false

def errV (e : Int) : Value := if e = 0 then .nilIface else .iface 102 (.int .i64 e)

end Go.Proofs.YtcfemppdeidjmacGreat.Sp
