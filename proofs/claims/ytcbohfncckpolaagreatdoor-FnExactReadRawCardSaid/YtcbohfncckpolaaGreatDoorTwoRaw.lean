/-
  Two descriptions held in two local variables, as the exact laws hold their arguments: what each call of the laws leaves of them.
-/
import Derived.Test.YtcbohfncckpolaaGreatDoorEqRaw
namespace Go.Proofs.YtcbohfncckpolaaGreatDoor.Num
open Go.RowKit Go.Proofs
set_option linter.unusedVariables false

end Go.Proofs.YtcbohfncckpolaaGreatDoor.Num
