/-
  The field that is all zero.
-/
import Derived.Test.YtcnpdcmdnmfnaaaRaw
namespace Go.Proofs.Ytcnpdcmdnmfnaaa.Num
def zeroF : RF := (0, 0, false, false, 0)
end Go.Proofs.Ytcnpdcmdnmfnaaa.Num
