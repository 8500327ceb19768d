/-
  The walk of the reference's l1Whole once more: some number of the type int; of what was there only the cursor's block is written, and the cursor goes on.
-/
import Derived.Test.YteplmjlllnbiiaaDrawPickInt
namespace Go.Proofs.Yteplmjlllnbiiaa.Num
open Go.RowKit Go.Proofs
set_option linter.unusedVariables false

/-- Some number of the type int; the cursor goes on. -/
def WholeC (B g : Nat) (a : Option Addr) (len cap : Nat) (w : World) (e : Ending) (w' : World) : Prop := ∃ n : Int, (-9223372036854775808 ≤ n ∧ n ≤ 9223372036854775807) ∧ e = .returned (.int .i64 n) ∧ Cur w' B g a len cap ∧ Off w.heap.size g w w'
end Go.Proofs.Yteplmjlllnbiiaa.Num
