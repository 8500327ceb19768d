/-
  The walks of the laws' toEvent, szEvent and eqEvent: events laid anew in new memory; what is left is not below 0 only where they are small; equal lists are told so.
-/
import Derived.Test.YtcnpdcmdnmfnaaaEv
import Derived.Test.YtcnpdcmdnmfnaaaZone
import Derived.OwnWalk
import Derived.LoopTactic
import Derived.Deep.RegionWith
namespace Go.Proofs.Ytcnpdcmdnmfnaaa.Num
open Go.RowKit Go.Proofs
set_option linter.unusedVariables false
set_option linter.unusedSimpArgs false

theorem info_event : (Try.prog.info? 35).map (fun i => (i.zero, i.size, i.bytes)) = some (some (.agg #[.int .i64 0, .int .i64 0, .int .u64 0, .int .i64 0, .string ByteArray.empty, .int .i64 0, .int .i64 0]), 7, 64) := by kernel_rfl
set_option maxHeartbeats 1000000 in
theorem eqEvent_same (e : Ev) (w : World) :
    Calls Try.prog 23 #[evV e, evV e] w fun x w' => x = .returned (.bool true) ∧ Below w.heap.size w w' := by
  unfold evV
  obtain ⟨k, f, b, l, t, c, p⟩ := e
  simp only
  go_enter Try.func23, Try.ntmps23
  go_wp2_with fail
  go_ret
  refine ⟨rfl, ?_⟩
  repeat (first | with_reducible exact Below.refl _ _ | refine Below.setCell ?_ (by simp) _ | refine Below.alloc ?_ (by simp <;> omega) _)
end Go.Proofs.Ytcnpdcmdnmfnaaa.Num
