/-
  The walks of the laws' szRaw: what is left is not below 0 only where no list is longer than the bound; nothing that was there is written.
-/
import Derived.Test.YtcbohfncckpolaaGreatDoorToRaw
namespace Go.Proofs.YtcbohfncckpolaaGreatDoor.Num
open Go.RowKit Go.Proofs
set_option linter.unusedVariables false

end Go.Proofs.YtcbohfncckpolaaGreatDoor.Num
