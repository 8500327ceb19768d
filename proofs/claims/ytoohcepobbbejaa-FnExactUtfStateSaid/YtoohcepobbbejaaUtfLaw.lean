/-
  The walks of toUtf and eqUtf: a state as the program's state; two equal states are equal.
-/
import Derived.Test.YtoohcepobbbejaaUtfByte
namespace Go.Proofs.Ytoohcepobbbejaa.Num
open Go.RowKit Go.Proofs
theorem toUtf_any (W L H : Int) (w : World) :
    Calls Try.prog 30 #[.agg #[.int .i64 W, .int .i64 L, .int .i64 H]] w fun e w' => e = .returned (.agg #[.int .i64 W, .int .i64 L, .int .i64 H]) ∧ Below w.heap.size w w' := by
  go_enter Try.func30, Try.ntmps30
  go_wp2_with fail
  refine bodyPost_ret (v := .agg #[.int .i64 W, .int .i64 L, .int .i64 H]) (by simp [results, Try.results30, go_sem]) rfl ⟨rfl, ?_⟩
  repeat (first | exact Below.refl _ _ | refine Below.setCell ?_ (by simp) _ | refine Below.alloc ?_ (by simp <;> omega) _)
theorem eqUtf_same (W L H : Int) (w : World) :
    Calls Try.prog 31 #[.agg #[.int .i64 W, .int .i64 L, .int .i64 H], .agg #[.int .i64 W, .int .i64 L, .int .i64 H]] w fun e w' => e = .returned (.bool true) ∧ Below w.heap.size w w' := by
  go_enter Try.func31, Try.ntmps31
  go_wp2_with fail
  go_ret
  refine ⟨rfl, ?_⟩
  repeat (first | exact Below.refl _ _ | refine Below.setCell ?_ (by simp) _ | refine Below.alloc ?_ (by simp <;> omega) _)
end Go.Proofs.Ytoohcepobbbejaa.Num
