/-
  The walks of the reference's and the program's functions on tags and zigzag (NumberOk, WireOk, TagOf, TagIn, Zig, Unzig, WidthOf): both give what the plain definitions here say; nothing is written.
-/
import Derived.Test.YtpkofbdfnbpfpaaGreatIn
import Derived.Lib.Zigzag
import Derived.Lib.Hide
import Derived.WalkLawsBesides
import Derived.WalkSpells
namespace Go.Proofs.YtpkofbdfnbpfpaaGreat.Num
open Go.RowKit Go.Proofs
set_option linter.unusedVariables false

/-- From 1 to the greatest field number. -/
def Fits (n : Int) : Prop := 1 ≤ n ∧ n ≤ 536870911
instance (n : Int) : Decidable (Fits n) := by unfold Fits; infer_instance
def numOkB (n : Int) : Bool := decide (Fits n ∧ ¬ (19000 ≤ n ∧ n ≤ 19999))
def wireOkB (w : Int) : Bool := decide (w = 0 ∨ w = 1 ∨ w = 2 ∨ w = 5)
def tagR (n w : Int) : Int := if Fits n ∧ 0 ≤ w ∧ w ≤ 7 then 8 * n + w else 0
def tagInR (u : Nat) : Int × Int × Bool := if 8 ≤ u ∧ u ≤ 4294967295 then ((u : Int) / 8, (u : Int) % 8, true) else (0, 0, false)
def zigR (n : Int) : Int := if n < 0 then -(2 * n) - 1 else 2 * n
def unzigR (u : Nat) : Int := if u % 2 = 1 then -((u : Int) / 2) - 1 else (u : Int) / 2
def widthR (w : Int) : Int := if w = 1 then 8 else if w = 5 then 4 else 0
def tagV (r : Int × Int × Bool) : Value := .tuple #[.int .i64 r.1, .int .i64 r.2.1, .bool r.2.2]

theorem specIn_yes (x lo hi : Int) (w : World) (h : lo ≤ x ∧ x ≤ hi) : Calls Tryz.prog 65 #[.int .i64 x, .int .i64 lo, .int .i64 hi] w fun e w' => e = .returned (.bool true) ∧ w = w' :=
  (specIn_any x lo hi w).mono fun e w' ⟨he, hw⟩ => ⟨by rw [he, decide_eq_true h], hw⟩
theorem specIn_no (x lo hi : Int) (w : World) (h : ¬ (lo ≤ x ∧ x ≤ hi)) : Calls Tryz.prog 65 #[.int .i64 x, .int .i64 lo, .int .i64 hi] w fun e w' => e = .returned (.bool false) ∧ w = w' :=
  (specIn_any x lo hi w).mono fun e w' ⟨he, hw⟩ => ⟨by rw [he, decide_eq_false h], hw⟩
theorem implFits_yes (n : Int) (w : World) (h : Fits n) : Calls Tryz.prog 191 #[.int .i64 n] w fun e w' => e = .returned (.bool true) ∧ w = w' := by
  obtain ⟨h1, h2⟩ := h
  go_enter Tryz.func191, Tryz.ntmps191
  go_wp2_with fail
  go_ret
  exact ⟨rfl, rfl⟩
theorem implFits_no (n : Int) (w : World) (h : ¬ Fits n) : Calls Tryz.prog 191 #[.int .i64 n] w fun e w' => e = .returned (.bool false) ∧ w = w' := by
  unfold Fits at h
  by_cases h1 : 1 ≤ n
  · have h2 : ¬ n ≤ 536870911 := by omega
    clear h
    go_enter Tryz.func191, Tryz.ntmps191
    go_wp2_with fail
    go_ret
    exact ⟨rfl, rfl⟩
  · clear h
    go_enter Tryz.func191, Tryz.ntmps191
    go_wp2_with fail
    go_ret
    exact ⟨rfl, rfl⟩
theorem specNumberOk_any (n : Int) (w : World) : Calls Tryz.prog 144 #[.int .i64 n] w fun e w' => e = .returned (.bool (numOkB n)) ∧ w = w' := by
  by_cases h : Fits n
  · by_cases h2 : 19000 ≤ n ∧ n ≤ 19999
    · have He := Lib.hid (show numOkB n = false from decide_eq_false fun k => k.2 h2)
      have H := Lib.hid h; have H2 := Lib.hid h2; clear h h2
      go_enter Tryz.func144, Tryz.ntmps144
      go_wp2_with fail
      refine (specIn_yes n 1 536870911 _ H.out).mono ?_
      rintro e w1 ⟨rfl, rfl⟩
      go_wp2_with fail
      refine (specIn_yes n 19000 19999 _ H2.out).mono ?_
      rintro e w1 ⟨rfl, rfl⟩
      go_wp2_with fail
      go_ret
      exact ⟨by rw [He.out]; rfl, rfl⟩
    · have He := Lib.hid (show numOkB n = true from decide_eq_true ⟨h, h2⟩)
      have H := Lib.hid h; have H2 := Lib.hid h2; clear h h2
      go_enter Tryz.func144, Tryz.ntmps144
      go_wp2_with fail
      refine (specIn_yes n 1 536870911 _ H.out).mono ?_
      rintro e w1 ⟨rfl, rfl⟩
      go_wp2_with fail
      refine (specIn_no n 19000 19999 _ H2.out).mono ?_
      rintro e w1 ⟨rfl, rfl⟩
      go_wp2_with fail
      go_ret
      exact ⟨by rw [He.out]; rfl, rfl⟩
  · have He := Lib.hid (show numOkB n = false from decide_eq_false fun k => h k.1)
    have H := Lib.hid h; clear h
    go_enter Tryz.func144, Tryz.ntmps144
    go_wp2_with fail
    refine (specIn_no n 1 536870911 _ H.out).mono ?_
    rintro e w1 ⟨rfl, rfl⟩
    go_wp2_with fail
    go_ret
    exact ⟨by rw [He.out]; rfl, rfl⟩
theorem implNumberOk_any (n : Int) (w : World) : Calls Tryz.prog 172 #[.int .i64 n] w fun e w' => e = .returned (.bool (numOkB n)) ∧ w = w' := by
  by_cases h : Fits n
  · by_cases h1 : n < 19000
    · have He := Lib.hid (show numOkB n = true from decide_eq_true ⟨h, by omega⟩)
      have H := Lib.hid h; clear h
      go_enter Tryz.func172, Tryz.ntmps172
      go_wp2_with fail
      refine (implFits_yes n _ H.out).mono ?_
      rintro e w1 ⟨rfl, rfl⟩
      go_wp2_with fail
      go_ret
      exact ⟨by rw [He.out]; rfl, rfl⟩
    · by_cases h2 : 19999 < n
      · have He := Lib.hid (show numOkB n = true from decide_eq_true ⟨h, by omega⟩)
        have H := Lib.hid h; clear h
        go_enter Tryz.func172, Tryz.ntmps172
        go_wp2_with fail
        refine (implFits_yes n _ H.out).mono ?_
        rintro e w1 ⟨rfl, rfl⟩
        go_wp2_with fail
        go_ret
        exact ⟨by rw [He.out]; rfl, rfl⟩
      · have He := Lib.hid (show numOkB n = false from decide_eq_false fun k => k.2 (by omega))
        have d1 : decide (n < 19000) = false := decide_eq_false h1
        have d2 : decide (19999 < n) = false := decide_eq_false h2
        have H := Lib.hid h; clear h
        go_enter Tryz.func172, Tryz.ntmps172
        go_wp2_with fail
        refine (implFits_yes n _ H.out).mono ?_
        rintro e w1 ⟨rfl, rfl⟩
        go_wp2_with fail
        go_ret
        exact ⟨by rw [He.out]; rfl, rfl⟩
  · have He := Lib.hid (show numOkB n = false from decide_eq_false fun k => h k.1)
    have H := Lib.hid h; clear h
    go_enter Tryz.func172, Tryz.ntmps172
    go_wp2_with fail
    refine (implFits_no n _ H.out).mono ?_
    rintro e w1 ⟨rfl, rfl⟩
    go_wp2_with fail
    go_ret
    exact ⟨by rw [He.out]; rfl, rfl⟩
theorem specWireOk_any (x : Int) (w : World) : Calls Tryz.prog 104 #[.int .i64 x] w fun e w' => e = .returned (.bool (wireOkB x)) ∧ w = w' := by
  by_cases h : x = 0 ∨ x = 1 ∨ x = 2 ∨ x = 5
  · rcases h with rfl | rfl | rfl | rfl
    all_goals
      go_enter Tryz.func104, Tryz.ntmps104
      go_wp2_with fail
      go_ret
      exact ⟨rfl, rfl⟩
  · have He := Lib.hid (show wireOkB x = false from decide_eq_false h)
    have h0 : (x == 0) = false := by rw [beq_eq_false_iff_ne]; omega
    have h1 : (x == 1) = false := by rw [beq_eq_false_iff_ne]; omega
    have h2 : (x == 2) = false := by rw [beq_eq_false_iff_ne]; omega
    have h5 : (x == 5) = false := by rw [beq_eq_false_iff_ne]; omega
    clear h
    go_enter Tryz.func104, Tryz.ntmps104
    go_wp2_with fail
    go_ret
    exact ⟨by rw [He.out]; rfl, rfl⟩
theorem implWireOk_any (x : Int) (w : World) : Calls Tryz.prog 185 #[.int .i64 x] w fun e w' => e = .returned (.bool (wireOkB x)) ∧ w = w' := by
  by_cases h : x = 0 ∨ x = 1 ∨ x = 2 ∨ x = 5
  · rcases h with rfl | rfl | rfl | rfl
    all_goals
      go_enter Tryz.func185, Tryz.ntmps185
      go_wp2_with fail
      go_ret
      exact ⟨rfl, rfl⟩
  · have He := Lib.hid (show wireOkB x = false from decide_eq_false h)
    have h0 : (x == 0) = false := by rw [beq_eq_false_iff_ne]; omega
    have h1 : (x == 1) = false := by rw [beq_eq_false_iff_ne]; omega
    have h2 : (x == 2) = false := by rw [beq_eq_false_iff_ne]; omega
    have h5 : (x == 5) = false := by rw [beq_eq_false_iff_ne]; omega
    clear h
    go_enter Tryz.func185, Tryz.ntmps185
    go_wp2_with fail
    go_ret
    exact ⟨by rw [He.out]; rfl, rfl⟩
end Go.Proofs.YtpkofbdfnbpfpaaGreat.Num
