/-
  The walks of the laws' toRaw: a description laid anew in new memory, each of its rows in a block of its own.
-/
import Derived.Test.YtpkofbdfnbpfpaaGreatZone
import Derived.OwnWalk
import Derived.LoopTactic
namespace Go.Proofs.YtpkofbdfnbpfpaaGreat.Num
open Go.RowKit Go.Proofs
set_option linter.unusedVariables false
set_option linter.unusedSimpArgs false

end Go.Proofs.YtpkofbdfnbpfpaaGreat.Num
