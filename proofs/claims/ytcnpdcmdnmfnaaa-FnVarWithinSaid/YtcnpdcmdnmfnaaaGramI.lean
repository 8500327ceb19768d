/-
  The program's VarWithin, NumEvent and PlanOk, gathered.
-/
import Derived.Test.YtcnpdcmdnmfnaaaWithinI
import Derived.Test.YtcnpdcmdnmfnaaaPlanI
