/-
  The walks of the laws' szRaw: what is left is not below 0 only where no list is longer than the bound; nothing that was there is written.
-/
import Derived.Test.YtpkofbdfnbpfpaaGreatToRaw
namespace Go.Proofs.YtpkofbdfnbpfpaaGreat.Num
open Go.RowKit Go.Proofs
set_option linter.unusedVariables false

end Go.Proofs.YtpkofbdfnbpfpaaGreat.Num
