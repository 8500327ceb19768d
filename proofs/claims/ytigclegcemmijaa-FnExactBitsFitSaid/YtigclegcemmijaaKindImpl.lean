/-
  The walks of the program's Numeric, WireOf and BitsFit (KindWord: KindMap).
-/
import Derived.Test.YtigclegcemmijaaKindMap
namespace Go.Proofs.Ytigclegcemmijaa.Num
open Go.RowKit Go.Proofs
set_option linter.unusedVariables false

theorem impl0Numeric_any (k : Int) (w : World) : Calls Try.prog 15 #[.int .i64 k] w fun e w' => e = .returned (.bool (numericB k)) ∧ w = w' := by
  have He : Hid (numericB k = decide (1 ≤ k ∧ k ≤ 5)) := Lib.hid rfl
  by_cases h1 : 1 ≤ k
  · by_cases h2 : k ≤ 5
    · have d1 : decide (1 ≤ k) = true := decide_eq_true h1
      have d2 : decide (k ≤ 5) = true := decide_eq_true h2
      have e : numericB k = true := by rw [He.out]; exact decide_eq_true ⟨h1, h2⟩
      rw [e]
      clear e h1 h2
      go_enter Try.func15, Try.ntmps15
      go_wp2_with fail
      go_ret
      exact ⟨rfl, rfl⟩
    · have d1 : decide (1 ≤ k) = true := decide_eq_true h1
      have d2 : decide (k ≤ 5) = false := decide_eq_false h2
      have e : numericB k = false := by rw [He.out]; exact decide_eq_false (by omega)
      rw [e]
      clear e h1 h2
      go_enter Try.func15, Try.ntmps15
      go_wp2_with fail
      go_ret
      exact ⟨rfl, rfl⟩
  · have d1 : decide (1 ≤ k) = false := decide_eq_false h1
    have e : numericB k = false := by rw [He.out]; exact decide_eq_false (by omega)
    rw [e]
    clear e h1
    go_enter Try.func15, Try.ntmps15
    go_wp2_with fail
    go_ret
    exact ⟨rfl, rfl⟩
theorem impl0WireOf_any (k : Int) (w : World) : Calls Try.prog 11 #[.int .i64 k] w fun e w' => e = .returned (.int .i64 (wireR k)) ∧ w = w' := by
  rcases kind_cases k with h | h
  · rcases h with rfl | rfl | rfl | rfl | rfl | rfl | rfl | rfl
    all_goals
      go_enter Try.func11, Try.ntmps11
      go_wp2_with fail
      go_ret
      exact ⟨rfl, rfl⟩
  · have He : wireR k = -1 := if_pos h
    rw [He]
    have b1 := eqF (show k ≠ 1 by omega)
    have b2 := eqF (show k ≠ 2 by omega)
    have b3 := eqF (show k ≠ 3 by omega)
    have b4 := eqF (show k ≠ 4 by omega)
    have b5 := eqF (show k ≠ 5 by omega)
    have b6 := eqF (show k ≠ 6 by omega)
    have b7 := eqF (show k ≠ 7 by omega)
    have b8 := eqF (show k ≠ 8 by omega)
    clear He h
    go_enter Try.func11, Try.ntmps11
    go_wp2_with fail
    go_ret
    exact ⟨rfl, rfl⟩
theorem impl0BitsFit_any (k : Int) (u : Nat) (w : World) : Calls Try.prog 13 #[.int .i64 k, .int .u64 u] w fun e w' => e = .returned (.bool (fitB k u)) ∧ w = w' := by
  by_cases h3 : k = 3
  · subst h3
    have He : fitB 3 u = decide (u ≤ 1) := rfl
    rw [He]
    by_cases hu : u ≤ 1
    · have d1 : decide (u ≤ 1) = true := decide_eq_true hu
      have d2 : decide ((u : Int) ≤ 1) = true := decide_eq_true (by omega)
      rw [d1]
      clear He hu
      go_enter Try.func13, Try.ntmps13
      go_wp2_with fail
      go_ret
      exact ⟨rfl, rfl⟩
    · have d1 : decide (u ≤ 1) = false := decide_eq_false hu
      have d2 : decide ((u : Int) ≤ 1) = false := decide_eq_false (by omega)
      rw [d1]
      clear He hu
      go_enter Try.func13, Try.ntmps13
      go_wp2_with fail
      go_ret
      exact ⟨rfl, rfl⟩
  · by_cases h4 : k = 4
    · subst h4
      have He : fitB 4 u = decide (u ≤ 4294967295) := rfl
      rw [He]
      by_cases hu : u ≤ 4294967295
      · have d1 : decide (u ≤ 4294967295) = true := decide_eq_true hu
        have d2 : decide ((u : Int) ≤ 4294967295) = true := decide_eq_true (by omega)
        rw [d1]
        clear He hu
        go_enter Try.func13, Try.ntmps13
        go_wp2_with fail
        go_ret
        exact ⟨rfl, rfl⟩
      · have d1 : decide (u ≤ 4294967295) = false := decide_eq_false hu
        have d2 : decide ((u : Int) ≤ 4294967295) = false := decide_eq_false (by omega)
        rw [d1]
        clear He hu
        go_enter Try.func13, Try.ntmps13
        go_wp2_with fail
        go_ret
        exact ⟨rfl, rfl⟩
    · have He : fitB k u = numericB k := by unfold fitB; rw [if_neg h3, if_neg h4]
      rw [He]
      clear He
      by_cases hk : k = 1 ∨ k = 2 ∨ k = 5
      · clear h3 h4
        rcases hk with rfl | rfl | rfl
        all_goals
          go_enter Try.func13, Try.ntmps13
          go_wp2_with fail
          go_ret
          exact ⟨rfl, rfl⟩
      · have e : numericB k = false := decide_eq_false (by omega)
        rw [e]
        have b1 := eqF (show k ≠ 1 by omega)
        have b2 := eqF (show k ≠ 2 by omega)
        have b5 := eqF (show k ≠ 5 by omega)
        have b3 := eqF h3
        have b4 := eqF h4
        clear e hk h3 h4
        go_enter Try.func13, Try.ntmps13
        go_wp2_with fail
        go_ret
        exact ⟨rfl, rfl⟩
theorem implNumeric_any (k : Int) (w : World) : Calls Try.prog 15 #[.int .i64 k] w fun e w' => e = .returned (.bool (numericB k)) ∧ Below w.heap.size w w' := (impl0Numeric_any k w).mono fun _ _ ⟨he, hw⟩ => ⟨he, hw ▸ Below.refl _ _⟩
theorem implWireOf_any (k : Int) (w : World) : Calls Try.prog 11 #[.int .i64 k] w fun e w' => e = .returned (.int .i64 (wireR k)) ∧ Below w.heap.size w w' := (impl0WireOf_any k w).mono fun _ _ ⟨he, hw⟩ => ⟨he, hw ▸ Below.refl _ _⟩
theorem implBitsFit_any (k : Int) (u : Nat) (w : World) (hu : u ≤ 18446744073709551615) : Calls Try.prog 13 #[.int .i64 k, .int .u64 u] w fun e w' => e = .returned (.bool (fitB k u)) ∧ Below w.heap.size w w' := (impl0BitsFit_any k u w).mono fun _ _ ⟨he, hw⟩ => ⟨he, hw ▸ Below.refl _ _⟩
end Go.Proofs.Ytigclegcemmijaa.Num
