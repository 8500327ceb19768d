/-
  The program's events, each made by its kind's method: what the seven fields hold. (The kinds that a message tells of.)
-/
import Derived.Test.YtcnpdcmdnmfnaaaPlanS
namespace Go.Proofs.Ytcnpdcmdnmfnaaa.Num
open Go.RowKit Go.Proofs
set_option linter.unusedVariables false
theorem numKind_any (f : Int) (b : Int) (w : World) : Calls Try.prog 31 #[.agg #[.int .i64 f, .int .u64 b]] w fun x w' => x = .returned (.agg #[.int .i64 2, .int .i64 f, .int .u64 b, .int .i64 0, .string ⟨#[]⟩, .int .i64 0, .int .i64 0]) ∧ Below w.heap.size w w' := by
  go_enter Try.func31, Try.ntmps31
  go_wp2_with fail
  refine bodyPost_ret (v := .agg #[.int .i64 2, .int .i64 f, .int .u64 b, .int .i64 0, .string ⟨#[]⟩, .int .i64 0, .int .i64 0]) (by simp [results, Try.results31, go_sem]) rfl ⟨rfl, ?_⟩
  repeat (first | with_reducible exact Below.refl _ _ | refine Below.setCell ?_ (by simp) _ | refine Below.alloc ?_ (by first | omega | (simp <;> omega)) _)
end Go.Proofs.Ytcnpdcmdnmfnaaa.Num
