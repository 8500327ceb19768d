/-
  The walks of TagOf, TagIn, Zig, Unzig and WidthOf, the reference's and the program's: both give what the plain definitions of XTag say; nothing is written.
-/
import Derived.Test.YtcnpdcmdnmfnaaaGreatTag
namespace Go.Proofs.YtcnpdcmdnmfnaaaGreat.Num
open Go.RowKit Go.Proofs
set_option linter.unusedVariables false

theorem tagR_no1 {n w : Int} (h : ¬ Fits n) : tagR n w = 0 := if_neg fun k => h k.1
theorem tagR_no2 {n w : Int} (h : ¬ (0 ≤ w ∧ w ≤ 7)) : tagR n w = 0 := if_neg fun k => h k.2
theorem tagR_yes {n w : Int} (h : Fits n) (k : 0 ≤ w ∧ w ≤ 7) : tagR n w = 8 * n + w := if_pos ⟨h, k⟩
theorem tagR_is (n x : Int) : ∃ u : Nat, u ≤ 18446744073709551615 ∧ tagR n x = (u : Int) := by
  unfold tagR
  split
  · next h => unfold Fits at h; exact ⟨(8 * n + x).toNat, by omega, by omega⟩
  · exact ⟨0, by omega, rfl⟩
theorem specTagOf_any (n x : Int) (w : World) : Calls Tryz.prog 75 #[.int .i64 n, .int .i64 x] w fun e w' => e = .returned (.int .u64 (tagR n x)) ∧ w = w' := by
  by_cases h : Fits n
  · by_cases h2 : 0 ≤ x ∧ x ≤ 7
    · have hf : 1 ≤ n ∧ n ≤ 536870911 := h
      have He := Lib.hid (tagR_yes h h2)
      have H := Lib.hid h; have H2 := Lib.hid h2; clear h h2
      have hw : IntKind.i64.wrap (8 * n) = 8 * n := IntWalk.i64_in _ (by omega)
      have hw2 : IntKind.i64.wrap (8 * n + x) = 8 * n + x := IntWalk.i64_in _ (by have := H2.out; omega)
      have hw3 : IntKind.u64.wrap (8 * n + x) = 8 * n + x := by rw [IntKind.wrap_u64]; have := H2.out; omega
      clear hf
      go_enter Tryz.func75, Tryz.ntmps75
      go_wp2_with fail
      refine (specIn_yes n 1 536870911 _ H.out).mono ?_
      rintro e w1 ⟨rfl, rfl⟩
      go_wp2_with fail
      refine (specIn_yes x 0 7 _ H2.out).mono ?_
      rintro e w1 ⟨rfl, rfl⟩
      go_wp2_with fail
      go_ret
      exact ⟨by rw [He.out]; rfl, rfl⟩
    · have He := Lib.hid (tagR_no2 (n := n) h2)
      have H := Lib.hid h; have H2 := Lib.hid h2; clear h h2
      go_enter Tryz.func75, Tryz.ntmps75
      go_wp2_with fail
      refine (specIn_yes n 1 536870911 _ H.out).mono ?_
      rintro e w1 ⟨rfl, rfl⟩
      go_wp2_with fail
      refine (specIn_no x 0 7 _ H2.out).mono ?_
      rintro e w1 ⟨rfl, rfl⟩
      go_wp2_with fail
      go_ret
      exact ⟨by rw [He.out]; rfl, rfl⟩
  · have He := Lib.hid (tagR_no1 (w := x) h)
    have H := Lib.hid h; clear h
    go_enter Tryz.func75, Tryz.ntmps75
    go_wp2_with fail
    refine (specIn_no n 1 536870911 _ H.out).mono ?_
    rintro e w1 ⟨rfl, rfl⟩
    go_wp2_with fail
    go_ret
    exact ⟨by rw [He.out]; rfl, rfl⟩
theorem tagIn_yes {u : Nat} (h : 8 ≤ u ∧ u ≤ 4294967295) : tagInR u = (((u / 8 : Nat) : Int), ((u % 8 : Nat) : Int), true) := by unfold tagInR; rw [if_pos h]; rfl
theorem tagIn_no {u : Nat} (h : ¬ (8 ≤ u ∧ u ≤ 4294967295)) : tagInR u = (0, 0, false) := if_neg h
theorem specTagIn_any (u : Nat) (w : World) (hu : u ≤ 18446744073709551615) : Calls Tryz.prog 60 #[.int .u64 u] w fun e w' => e = .returned (tagV (tagInR u)) ∧ w = w' := by
  by_cases h1 : u < 8
  · have He := Lib.hid (tagIn_no (u := u) (by omega))
    have h1i : (u : Int) < 8 := by omega
    clear hu
    go_enter Tryz.func60, Tryz.ntmps60
    go_wp2_with fail
    go_ret3
    exact ⟨by rw [He.out]; rfl, rfl⟩
  · by_cases h2 : 4294967295 < u
    · have He := Lib.hid (tagIn_no (u := u) (by omega))
      have h2i : 4294967295 < (u : Int) := by omega
      go_enter Tryz.func60, Tryz.ntmps60
      go_wp2_with fail
      go_ret3
      exact ⟨by rw [He.out]; rfl, rfl⟩
    · have He := Lib.hid (tagIn_yes (u := u) (by omega))
      have hw1 : IntKind.i64.wrap ((u : Int) / 8) = (u : Int) / 8 := IntWalk.i64_in _ (by omega)
      have hw2 : IntKind.i64.wrap ((u : Int) % 8) = (u : Int) % 8 := IntWalk.i64_in _ (by omega)
      have h1i : 8 ≤ (u : Int) := by omega
      have h2i : (u : Int) ≤ 4294967295 := by omega
      go_enter Tryz.func60, Tryz.ntmps60
      go_wp2_with fail
      go_ret3
      exact ⟨by rw [He.out]; rfl, rfl⟩
theorem implTagIn_any (u : Nat) (w : World) (hu : u ≤ 18446744073709551615) : Calls Tryz.prog 140 #[.int .u64 u] w fun e w' => e = .returned (tagV (tagInR u)) ∧ w = w' := by
  have hw1 : IntKind.i64.wrap ((u : Int) / 8) = (u : Int) / 8 := IntWalk.i64_in _ (by omega)
  have hw2 : IntKind.i64.wrap ((u : Int) % 8) = (u : Int) % 8 := IntWalk.i64_in _ (by omega)
  by_cases h : Fits ((u : Int) / 8)
  · have He := Lib.hid (tagIn_yes (u := u) (by unfold Fits at h; omega))
    have H := Lib.hid h; clear h
    go_enter Tryz.func140, Tryz.ntmps140
    go_wp2_with fail
    refine (implFits_yes ((u : Int) / 8) _ H.out).mono ?_
    rintro e w1 ⟨rfl, rfl⟩
    go_wp2_with fail
    go_ret3
    exact ⟨by rw [He.out]; rfl, rfl⟩
  · have He := Lib.hid (tagIn_no (u := u) (by unfold Fits at h; omega))
    have H := Lib.hid h; clear h
    go_enter Tryz.func140, Tryz.ntmps140
    go_wp2_with fail
    refine (implFits_no ((u : Int) / 8) _ H.out).mono ?_
    rintro e w1 ⟨rfl, rfl⟩
    go_wp2_with fail
    go_ret3
    exact ⟨by rw [He.out]; rfl, rfl⟩
theorem zigR_nat {n : Int} (h0 : -9223372036854775808 ≤ n) (h1 : n ≤ 9223372036854775807) : ∃ u : Nat, u ≤ 18446744073709551615 ∧ zigR n = (u : Int) := by
  unfold zigR
  split
  · exact ⟨(-(2 * n) - 1).toNat, by omega, by omega⟩
  · exact ⟨(2 * n).toNat, by omega, by omega⟩
theorem unzigR_in (u : Nat) (hu : u ≤ 18446744073709551615) : -9223372036854775808 ≤ unzigR u ∧ unzigR u ≤ 9223372036854775807 := by
  unfold unzigR
  split <;> omega
theorem specWidthOf_any (x : Int) (w : World) : Calls Tryz.prog 77 #[.int .i64 x] w fun e w' => e = .returned (.int .i64 (widthR x)) ∧ w = w' := by
  by_cases h1 : x = 1
  · subst h1
    go_enter Tryz.func77, Tryz.ntmps77
    go_wp2_with fail
    go_ret
    exact ⟨rfl, rfl⟩
  · by_cases h5 : x = 5
    · subst h5
      go_enter Tryz.func77, Tryz.ntmps77
      go_wp2_with fail
      go_ret
      exact ⟨rfl, rfl⟩
    · have He := Lib.hid (show widthR x = 0 by unfold widthR; rw [if_neg h1, if_neg h5])
      have b1 : (x == 1) = false := by rw [beq_eq_false_iff_ne]; exact h1
      have b5 : (x == 5) = false := by rw [beq_eq_false_iff_ne]; exact h5
      clear h1 h5
      go_enter Tryz.func77, Tryz.ntmps77
      go_wp2_with fail
      go_ret
      exact ⟨by rw [He.out]; rfl, rfl⟩
theorem implWidthOf_any (x : Int) (w : World) : Calls Tryz.prog 86 #[.int .i64 x] w fun e w' => e = .returned (.int .i64 (widthR x)) ∧ w = w' := by
  by_cases h1 : x = 1
  · subst h1
    go_enter Tryz.func86, Tryz.ntmps86
    go_wp2_with fail
    go_ret
    exact ⟨rfl, rfl⟩
  · by_cases h5 : x = 5
    · subst h5
      go_enter Tryz.func86, Tryz.ntmps86
      go_wp2_with fail
      go_ret
      exact ⟨rfl, rfl⟩
    · have He := Lib.hid (show widthR x = 0 by unfold widthR; rw [if_neg h1, if_neg h5])
      have b1 : (x == 1) = false := by rw [beq_eq_false_iff_ne]; exact h1
      have b5 : (x == 5) = false := by rw [beq_eq_false_iff_ne]; exact h5
      clear h1 h5
      go_enter Tryz.func86, Tryz.ntmps86
      go_wp2_with fail
      go_ret
      exact ⟨by rw [He.out]; rfl, rfl⟩
end Go.Proofs.YtcnpdcmdnmfnaaaGreat.Num
