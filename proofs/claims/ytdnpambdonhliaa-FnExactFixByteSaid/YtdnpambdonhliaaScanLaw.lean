/-
  The walks of toScan and eqScan: a state as the program's state; two equal states are equal.
-/
import Derived.Test.YtdnpambdonhliaaScan
namespace Go.Proofs.Ytdnpambdonhliaa.Num
open Go.RowKit Go.Proofs
theorem toScan_any (b : Nat) (h : Int) (w : World) :
    Calls Try.prog 33 #[scV b h] w fun e w' => e = .returned (scV b h) ∧ Below w.heap.size w w' := by
  unfold scV
  go_enter Try.func33, Try.ntmps33
  go_wp2_with fail
  refine bodyPost_ret (v := .agg #[.int .u64 b, .int .i64 h]) (by simp [results, Try.results33, go_sem]) rfl ⟨rfl, ?_⟩
  repeat (first | exact Below.refl _ _ | refine Below.setCell ?_ (by simp) _ | refine Below.alloc ?_ (by simp <;> omega) _)
theorem eqScan_same (b : Nat) (h : Int) (w : World) :
    Calls Try.prog 34 #[scV b h, scV b h] w fun e w' => e = .returned (.bool true) ∧ Below w.heap.size w w' := by
  unfold scV
  go_enter Try.func34, Try.ntmps34
  go_wp2_with fail
  go_ret
  refine ⟨rfl, ?_⟩
  repeat (first | exact Below.refl _ _ | refine Below.setCell ?_ (by simp) _ | refine Below.alloc ?_ (by simp <;> omega) _)
end Go.Proofs.Ytdnpambdonhliaa.Num
