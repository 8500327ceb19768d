/-
  The walk of the reference's l1In: whether a number lies between two others; nothing is written.
-/
import Derived.Test.YtpkofbdfnbpfpaaProg
import Derived.WalkLawsBesides
import Derived.WalkSpells
import Derived.WalkKit
import Derived.Below
namespace Go.Proofs.Ytpkofbdfnbpfpaa.Num
open Go.RowKit Go.Proofs

end Go.Proofs.Ytpkofbdfnbpfpaa.Num
