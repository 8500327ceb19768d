/-
  The walk of the reference's l1In: whether a number lies between two others; nothing is written.
-/
import Derived.Test.YtpkofbdfnbpfpaaGreatProg
import Derived.WalkLawsBesides
import Derived.WalkSpells
import Derived.WalkKit
import Derived.Below
namespace Go.Proofs.YtpkofbdfnbpfpaaGreat.Num
open Go.RowKit Go.Proofs

theorem specIn_any (x lo hi : Int) (w : World) :
    Calls Tryz.prog 65 #[.int .i64 x, .int .i64 lo, .int .i64 hi] w fun e w' => e = .returned (.bool (decide (lo ≤ x ∧ x ≤ hi))) ∧ w = w' := by
  by_cases h1 : lo ≤ x
  · by_cases h2 : x ≤ hi
    · go_enter Tryz.func65, Tryz.ntmps65
      go_wp2_with fail
      go_ret
      exact ⟨by simp [h1, h2], rfl⟩
    · go_enter Tryz.func65, Tryz.ntmps65
      go_wp2_with fail
      go_ret
      exact ⟨by simp [h2], rfl⟩
  · go_enter Tryz.func65, Tryz.ntmps65
    go_wp2_with fail
    go_ret
    exact ⟨by have h2 : decide (lo ≤ x) = false := decide_eq_false (by omega)
              rw [h2]; rfl, rfl⟩
end Go.Proofs.YtpkofbdfnbpfpaaGreat.Num
