/-
  The walk of the reference's l4Number: some number of the type int; of what was there only the cursor's block is written.
-/
import Derived.Test.YteplmjlllnbiiaaDrawOnce
import Derived.Test.YteplmjlllnbiiaaDrawPickInt
namespace Go.Proofs.Yteplmjlllnbiiaa.Num
open Go.RowKit Go.Proofs
set_option linter.unusedVariables false

def i64R (n : Int) : Prop := -9223372036854775808 ≤ n ∧ n ≤ 9223372036854775807
end Go.Proofs.Yteplmjlllnbiiaa.Num
