/-
  The walks of the laws' toEvent, szEvent and eqEvent: events laid anew in new memory; what is left is not below 0 only where they are small; equal lists are told so.
-/
import Derived.Test.YtbjndnpdmohjiaaDoorEv
import Derived.Test.YtbjndnpdmohjiaaDoorZone
import Derived.OwnWalk
import Derived.LoopTactic
import Derived.Deep.RegionWith
namespace Go.Proofs.YtbjndnpdmohjiaaDoor.Num
open Go.RowKit Go.Proofs
set_option linter.unusedVariables false
set_option linter.unusedSimpArgs false

theorem info_event : (Tryd.prog.info? 26).map (fun i => (i.zero, i.size, i.bytes)) = some (some (.agg #[.int .i64 0, .int .i64 0, .int .u64 0, .int .i64 0, .string ByteArray.empty, .int .i64 0, .int .i64 0]), 7, 64) := by kernel_rfl
end Go.Proofs.YtbjndnpdmohjiaaDoor.Num
