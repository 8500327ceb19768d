/-
  The walks of the program's UTF-8 functions, gathered.
-/
import Derived.Test.YtoohcepobbbejaaUtfSteps
import Derived.Test.YtoohcepobbbejaaUtfRunes
import Derived.Test.YtoohcepobbbejaaUtfGood
namespace Go.Proofs.Ytoohcepobbbejaa.Num
open Go.RowKit Go.Proofs

/-- The validator's answer to the empty string: no byte is refused. -/
theorem run_empty (u : Utf.St) : Utf.run u [] = (u, none) := Utf.run_nil u
end Go.Proofs.Ytoohcepobbbejaa.Num
