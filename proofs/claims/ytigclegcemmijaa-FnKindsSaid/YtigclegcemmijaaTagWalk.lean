/-
  The walks of TagOf, TagIn, Zig, Unzig and WidthOf, the reference's and the program's: both give what the plain definitions of XTag say; nothing is written.
-/
import Derived.Test.YtigclegcemmijaaTag
namespace Go.Proofs.Ytigclegcemmijaa.Num
open Go.RowKit Go.Proofs
set_option linter.unusedVariables false

theorem tagR_no1 {n w : Int} (h : ¬ Fits n) : tagR n w = 0 := if_neg fun k => h k.1
theorem tagR_no2 {n w : Int} (h : ¬ (0 ≤ w ∧ w ≤ 7)) : tagR n w = 0 := if_neg fun k => h k.2
theorem tagR_yes {n w : Int} (h : Fits n) (k : 0 ≤ w ∧ w ≤ 7) : tagR n w = 8 * n + w := if_pos ⟨h, k⟩
theorem tagR_is (n x : Int) : ∃ u : Nat, u ≤ 18446744073709551615 ∧ tagR n x = (u : Int) := by
  unfold tagR
  split
  · next h => unfold Fits at h; exact ⟨(8 * n + x).toNat, by omega, by omega⟩
  · exact ⟨0, by omega, rfl⟩
theorem tagIn_yes {u : Nat} (h : 8 ≤ u ∧ u ≤ 4294967295) : tagInR u = (((u / 8 : Nat) : Int), ((u % 8 : Nat) : Int), true) := by unfold tagInR; rw [if_pos h]; rfl
theorem tagIn_no {u : Nat} (h : ¬ (8 ≤ u ∧ u ≤ 4294967295)) : tagInR u = (0, 0, false) := if_neg h
theorem zigR_nat {n : Int} (h0 : -9223372036854775808 ≤ n) (h1 : n ≤ 9223372036854775807) : ∃ u : Nat, u ≤ 18446744073709551615 ∧ zigR n = (u : Int) := by
  unfold zigR
  split
  · exact ⟨(-(2 * n) - 1).toNat, by omega, by omega⟩
  · exact ⟨(2 * n).toNat, by omega, by omega⟩
theorem unzigR_in (u : Nat) (hu : u ≤ 18446744073709551615) : -9223372036854775808 ≤ unzigR u ∧ unzigR u ≤ 9223372036854775807 := by
  unfold unzigR
  split <;> omega
theorem implWidthOf_any (x : Int) (w : World) : Calls Try.prog 16 #[.int .i64 x] w fun e w' => e = .returned (.int .i64 (widthR x)) ∧ w = w' := by
  by_cases h1 : x = 1
  · subst h1
    go_enter Try.func16, Try.ntmps16
    go_wp2_with fail
    go_ret
    exact ⟨rfl, rfl⟩
  · by_cases h5 : x = 5
    · subst h5
      go_enter Try.func16, Try.ntmps16
      go_wp2_with fail
      go_ret
      exact ⟨rfl, rfl⟩
    · have He := Lib.hid (show widthR x = 0 by unfold widthR; rw [if_neg h1, if_neg h5])
      have b1 : (x == 1) = false := by rw [beq_eq_false_iff_ne]; exact h1
      have b5 : (x == 5) = false := by rw [beq_eq_false_iff_ne]; exact h5
      clear h1 h5
      go_enter Try.func16, Try.ntmps16
      go_wp2_with fail
      go_ret
      exact ⟨by rw [He.out]; rfl, rfl⟩
end Go.Proofs.Ytigclegcemmijaa.Num
