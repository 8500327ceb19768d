/-
  The field that is all zero.
-/
import Derived.Test.YtcnpdcmdnmfnaaaGreatRaw
namespace Go.Proofs.YtcnpdcmdnmfnaaaGreat.Num
def zeroF : RF := (0, 0, false, false, 0)
end Go.Proofs.YtcnpdcmdnmfnaaaGreat.Num
