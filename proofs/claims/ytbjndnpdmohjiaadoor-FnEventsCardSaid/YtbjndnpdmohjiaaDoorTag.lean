/-
  The walks of the reference's and the program's functions on tags and zigzag (NumberOk, WireOk, TagOf, TagIn, Zig, Unzig, WidthOf): both give what the plain definitions here say; nothing is written.
-/
import Derived.Test.YtbjndnpdmohjiaaDoorIn
import Derived.Lib.Zigzag
import Derived.Lib.Hide
import Derived.WalkLawsBesides
import Derived.WalkSpells
namespace Go.Proofs.YtbjndnpdmohjiaaDoor.Num
open Go.RowKit Go.Proofs
set_option linter.unusedVariables false

/-- From 1 to the greatest field number. -/
def Fits (n : Int) : Prop := 1 ≤ n ∧ n ≤ 536870911
instance (n : Int) : Decidable (Fits n) := by unfold Fits; infer_instance
def numOkB (n : Int) : Bool := decide (Fits n ∧ ¬ (19000 ≤ n ∧ n ≤ 19999))
def wireOkB (w : Int) : Bool := decide (w = 0 ∨ w = 1 ∨ w = 2 ∨ w = 5)
def tagR (n w : Int) : Int := if Fits n ∧ 0 ≤ w ∧ w ≤ 7 then 8 * n + w else 0
def tagInR (u : Nat) : Int × Int × Bool := if 8 ≤ u ∧ u ≤ 4294967295 then ((u : Int) / 8, (u : Int) % 8, true) else (0, 0, false)
def zigR (n : Int) : Int := if n < 0 then -(2 * n) - 1 else 2 * n
def unzigR (u : Nat) : Int := if u % 2 = 1 then -((u : Int) / 2) - 1 else (u : Int) / 2
def widthR (w : Int) : Int := if w = 1 then 8 else if w = 5 then 4 else 0
def tagV (r : Int × Int × Bool) : Value := .tuple #[.int .i64 r.1, .int .i64 r.2.1, .bool r.2.2]

theorem specIn_yes (x lo hi : Int) (w : World) (h : lo ≤ x ∧ x ≤ hi) : Calls Tryd.prog 22 #[.int .i64 x, .int .i64 lo, .int .i64 hi] w fun e w' => e = .returned (.bool true) ∧ w = w' :=
  (specIn_any x lo hi w).mono fun e w' ⟨he, hw⟩ => ⟨by rw [he, decide_eq_true h], hw⟩
theorem specIn_no (x lo hi : Int) (w : World) (h : ¬ (lo ≤ x ∧ x ≤ hi)) : Calls Tryd.prog 22 #[.int .i64 x, .int .i64 lo, .int .i64 hi] w fun e w' => e = .returned (.bool false) ∧ w = w' :=
  (specIn_any x lo hi w).mono fun e w' ⟨he, hw⟩ => ⟨by rw [he, decide_eq_false h], hw⟩
theorem implFits_yes (n : Int) (w : World) (h : Fits n) : Calls Tryd.prog 31 #[.int .i64 n] w fun e w' => e = .returned (.bool true) ∧ w = w' := by
  obtain ⟨h1, h2⟩ := h
  go_enter Tryd.func31, Tryd.ntmps31
  go_wp2_with fail
  go_ret
  exact ⟨rfl, rfl⟩
theorem implFits_no (n : Int) (w : World) (h : ¬ Fits n) : Calls Tryd.prog 31 #[.int .i64 n] w fun e w' => e = .returned (.bool false) ∧ w = w' := by
  unfold Fits at h
  by_cases h1 : 1 ≤ n
  · have h2 : ¬ n ≤ 536870911 := by omega
    clear h
    go_enter Tryd.func31, Tryd.ntmps31
    go_wp2_with fail
    go_ret
    exact ⟨rfl, rfl⟩
  · clear h
    go_enter Tryd.func31, Tryd.ntmps31
    go_wp2_with fail
    go_ret
    exact ⟨rfl, rfl⟩
end Go.Proofs.YtbjndnpdmohjiaaDoor.Num
