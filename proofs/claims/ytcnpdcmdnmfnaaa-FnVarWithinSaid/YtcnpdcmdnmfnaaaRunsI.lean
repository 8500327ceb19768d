/-
  The walk of the program's Runs (split off ShapeImpl).
-/
import Derived.Test.YtcnpdcmdnmfnaaaShape
import Derived.Test.YtcnpdcmdnmfnaaaSmallI
namespace Go.Proofs.Ytcnpdcmdnmfnaaa.Num
open Go.RowKit Go.Proofs
set_option linter.unusedVariables false
/-- The program's Runs. -/
theorem implRuns_any (f : RF) (w : World) : Calls Try.prog 65 #[fieldV f] w fun e w' => e = .returned (.bool (runsB f)) ∧ Below w.heap.size w w' := by
  obtain ⟨A1, A2, A3, A4, A5⟩ := f
  unfold fieldV runsB
  simp only
  have hl : Below w.heap.size w (w.alloc (.cells #[.int .i64 A1, .int .i64 A2, .bool A3, .bool A4, .int .i64 A5] 31)) := (Below.refl _ _).alloc (Nat.le_refl _) _
  cases A3
  · go_enter Try.func65, Try.ntmps65
    go_wp2_with fail
    go_ret
    exact ⟨rfl, hl⟩
  · obtain ⟨q, hq⟩ : ∃ q, numericB A2 = q := ⟨_, rfl⟩
    go_enter Try.func65, Try.ntmps65
    go_wp2_with fail
    refine (iNumeric_any A2 _).mono ?_
    rw [hq]
    rintro e w1 ⟨rfl, rfl⟩
    go_wp2_with fail
    go_ret
    exact ⟨by rw [hq]; rfl, hl⟩
end Go.Proofs.Ytcnpdcmdnmfnaaa.Num
