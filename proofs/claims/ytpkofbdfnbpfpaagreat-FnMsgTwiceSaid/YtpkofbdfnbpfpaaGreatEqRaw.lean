/-
  The walks of the laws' eqRaw: two values that hold the same description are equal; only new memory is written.
-/
import Derived.Test.YtpkofbdfnbpfpaaGreatSzRaw
import Derived.Deep.RegionWith
namespace Go.Proofs.YtpkofbdfnbpfpaaGreat.Num
open Go.RowKit Go.Proofs
set_option linter.unusedVariables false

end Go.Proofs.YtpkofbdfnbpfpaaGreat.Num
