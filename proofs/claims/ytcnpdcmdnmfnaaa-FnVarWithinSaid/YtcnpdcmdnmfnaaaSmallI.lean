/-
  The walks of the program's isIndex, kindOk and Numeric; nothing is written.
-/
import Derived.Test.YtcnpdcmdnmfnaaaKind
namespace Go.Proofs.Ytcnpdcmdnmfnaaa.Num
open Go.RowKit Go.Proofs
set_option linter.unusedVariables false
set_option linter.unusedSimpArgs false

theorem isIndex_yes (x n : Int) (w : World) (h : 0 ≤ x ∧ x < n) : Calls Try.prog 37 #[.int .i64 x, .int .i64 n] w fun e w' => e = .returned (.bool true) ∧ w = w' := by
  obtain ⟨h1, h2⟩ := h
  go_enter Try.func37, Try.ntmps37
  go_wp2_with fail
  go_ret
  exact ⟨rfl, rfl⟩
theorem isIndex_no (x n : Int) (w : World) (h : ¬ (0 ≤ x ∧ x < n)) : Calls Try.prog 37 #[.int .i64 x, .int .i64 n] w fun e w' => e = .returned (.bool false) ∧ w = w' := by
  by_cases h1 : 0 ≤ x
  · have h2 : decide (x < n) = false := decide_eq_false (by omega)
    clear h
    go_enter Try.func37, Try.ntmps37
    go_wp2_with fail
    go_ret
    exact ⟨rfl, rfl⟩
  · have h2 : decide (0 ≤ x) = false := decide_eq_false h1
    clear h h1
    go_enter Try.func37, Try.ntmps37
    go_wp2_with fail
    go_ret
    exact ⟨rfl, rfl⟩
theorem kindOk_yes (k : Int) (w : World) (h : 1 ≤ k ∧ k ≤ 8) : Calls Try.prog 64 #[.int .i64 k] w fun e w' => e = .returned (.bool true) ∧ w = w' := by
  obtain ⟨h1, h2⟩ := h
  go_enter Try.func64, Try.ntmps64
  go_wp2_with fail
  go_ret
  exact ⟨rfl, rfl⟩
theorem kindOk_no (k : Int) (w : World) (h : ¬ (1 ≤ k ∧ k ≤ 8)) : Calls Try.prog 64 #[.int .i64 k] w fun e w' => e = .returned (.bool false) ∧ w = w' := by
  by_cases h1 : 1 ≤ k
  · have h2 : decide (k ≤ 8) = false := decide_eq_false (by omega)
    clear h
    go_enter Try.func64, Try.ntmps64
    go_wp2_with fail
    go_ret
    exact ⟨rfl, rfl⟩
  · have h2 : decide (1 ≤ k) = false := decide_eq_false h1
    clear h h1
    go_enter Try.func64, Try.ntmps64
    go_wp2_with fail
    go_ret
    exact ⟨rfl, rfl⟩
theorem iNumeric_any (k : Int) (w : World) : Calls Try.prog 69 #[.int .i64 k] w fun e w' => e = .returned (.bool (numericB k)) ∧ w = w' := by
  have He : Hid (numericB k = decide (1 ≤ k ∧ k ≤ 5)) := Lib.hid rfl
  by_cases h1 : 1 ≤ k
  · by_cases h2 : k ≤ 5
    · have d1 : decide (1 ≤ k) = true := decide_eq_true h1
      have d2 : decide (k ≤ 5) = true := decide_eq_true h2
      have e : numericB k = true := by rw [He.out]; exact decide_eq_true ⟨h1, h2⟩
      rw [e]
      clear e h1 h2
      go_enter Try.func69, Try.ntmps69
      go_wp2_with fail
      go_ret
      exact ⟨rfl, rfl⟩
    · have d1 : decide (1 ≤ k) = true := decide_eq_true h1
      have d2 : decide (k ≤ 5) = false := decide_eq_false h2
      have e : numericB k = false := by rw [He.out]; exact decide_eq_false (by omega)
      rw [e]
      clear e h1 h2
      go_enter Try.func69, Try.ntmps69
      go_wp2_with fail
      go_ret
      exact ⟨rfl, rfl⟩
  · have d1 : decide (1 ≤ k) = false := decide_eq_false h1
    have e : numericB k = false := by rw [He.out]; exact decide_eq_false (by omega)
    rw [e]
    clear e h1
    go_enter Try.func69, Try.ntmps69
    go_wp2_with fail
    go_ret
    exact ⟨rfl, rfl⟩
end Go.Proofs.Ytcnpdcmdnmfnaaa.Num
