/-
  The walks of the reference's KindWord, Numeric, WireOf and BitsFit: they give what the plain definitions here say; only new memory is written.
-/
import Derived.Test.YtpkofbdfnbpfpaaGreatIn
import Derived.Lib.Hide
import Derived.WalkLawsBesides
import Derived.WalkSpells
namespace Go.Proofs.YtpkofbdfnbpfpaaGreat.Num
open Go.RowKit Go.Proofs
set_option linter.unusedVariables false

def numericB (k : Int) : Bool := decide (1 ≤ k ∧ k ≤ 5)
def kindB (k : Int) : Bool := decide (1 ≤ k ∧ k ≤ 8)
def wordR (k : Int) : ByteArray :=
  if k = 1 then ⟨#[117, 105, 110, 116]⟩
  else if k = 2 then ⟨#[115, 105, 110, 116]⟩
  else if k = 3 then ⟨#[98, 111, 111, 108]⟩
  else if k = 4 then ⟨#[102, 111, 117, 114]⟩
  else if k = 5 then ⟨#[101, 105, 103, 104, 116]⟩
  else if k = 6 then ⟨#[116, 101, 120, 116]⟩
  else if k = 7 then ⟨#[98, 121, 116, 101, 115]⟩
  else if k = 8 then ⟨#[109, 115, 103]⟩
  else ⟨#[]⟩
def wireR (k : Int) : Int := if ¬ (1 ≤ k ∧ k ≤ 8) then -1 else if k = 4 then 5 else if k = 5 then 1 else if k ≤ 5 then 0 else 2
def fitB (k : Int) (u : Nat) : Bool := if k = 3 then decide (u ≤ 1) else if k = 4 then decide (u ≤ 4294967295) else numericB k
theorem kind_cases (k : Int) : (k = 1 ∨ k = 2 ∨ k = 3 ∨ k = 4 ∨ k = 5 ∨ k = 6 ∨ k = 7 ∨ k = 8) ∨ ¬ (1 ≤ k ∧ k ≤ 8) := by omega
theorem eqF {x c : Int} (h : x ≠ c) : (x == c) = false := by rw [beq_eq_false_iff_ne]; exact h
theorem sIn_yes (x lo hi : Int) (w : World) (h : lo ≤ x ∧ x ≤ hi) : Calls Tryz.prog 65 #[.int .i64 x, .int .i64 lo, .int .i64 hi] w fun e w' => e = .returned (.bool true) ∧ w = w' :=
  (specIn_any x lo hi w).mono fun e w' ⟨he, hw⟩ => ⟨by rw [he, decide_eq_true h], hw⟩
theorem sIn_no (x lo hi : Int) (w : World) (h : ¬ (lo ≤ x ∧ x ≤ hi)) : Calls Tryz.prog 65 #[.int .i64 x, .int .i64 lo, .int .i64 hi] w fun e w' => e = .returned (.bool false) ∧ w = w' :=
  (specIn_any x lo hi w).mono fun e w' ⟨he, hw⟩ => ⟨by rw [he, decide_eq_false h], hw⟩
theorem specKind_yes (k : Int) (w : World) (h : 1 ≤ k ∧ k ≤ 8) : Calls Tryz.prog 139 #[.int .i64 k] w fun e w' => e = .returned (.bool true) ∧ w = w' := by
  go_enter Tryz.func139, Tryz.ntmps139
  go_wp2_with fail
  refine (sIn_yes k 1 8 _ h).mono ?_
  rintro e w1 ⟨rfl, rfl⟩
  go_wp2_with fail
  go_ret
  exact ⟨rfl, rfl⟩
theorem specKind_no (k : Int) (w : World) (h : ¬ (1 ≤ k ∧ k ≤ 8)) : Calls Tryz.prog 139 #[.int .i64 k] w fun e w' => e = .returned (.bool false) ∧ w = w' := by
  have H := Lib.hid h; clear h
  go_enter Tryz.func139, Tryz.ntmps139
  go_wp2_with fail
  refine (sIn_no k 1 8 _ H.out).mono ?_
  rintro e w1 ⟨rfl, rfl⟩
  go_wp2_with fail
  go_ret
  exact ⟨rfl, rfl⟩
theorem specNumeric_any (k : Int) (w : World) : Calls Tryz.prog 145 #[.int .i64 k] w fun e w' => e = .returned (.bool (numericB k)) ∧ w = w' := by
  unfold numericB
  by_cases h : 1 ≤ k ∧ k ≤ 5
  · rw [decide_eq_true h]
    go_enter Tryz.func145, Tryz.ntmps145
    go_wp2_with fail
    refine (sIn_yes k 1 5 _ h).mono ?_
    rintro e w1 ⟨rfl, rfl⟩
    go_wp2_with fail
    go_ret
    exact ⟨rfl, rfl⟩
  · rw [decide_eq_false h]
    have H := Lib.hid h; clear h
    go_enter Tryz.func145, Tryz.ntmps145
    go_wp2_with fail
    refine (sIn_no k 1 5 _ H.out).mono ?_
    rintro e w1 ⟨rfl, rfl⟩
    go_wp2_with fail
    go_ret
    exact ⟨rfl, rfl⟩
theorem specWireOf_any (k : Int) (w : World) : Calls Tryz.prog 126 #[.int .i64 k] w fun e w' => e = .returned (.int .i64 (wireR k)) ∧ w = w' := by
  rcases kind_cases k with h | h
  · rcases h with rfl | rfl | rfl | rfl | rfl | rfl | rfl | rfl
    · have Hn := Lib.hid (specNumeric_any 1)
      go_enter Tryz.func126, Tryz.ntmps126
      go_wp2_with fail
      refine (specKind_yes _ _ (by decide)).mono ?_
      rintro e w1 ⟨rfl, rfl⟩
      go_wp2_with fail
      refine (Hn.out _).mono ?_
      rintro e w1 ⟨rfl, rfl⟩
      rw [show numericB 1 = true from rfl]
      go_wp2_with fail
      go_ret
      exact ⟨rfl, rfl⟩
    · have Hn := Lib.hid (specNumeric_any 2)
      go_enter Tryz.func126, Tryz.ntmps126
      go_wp2_with fail
      refine (specKind_yes _ _ (by decide)).mono ?_
      rintro e w1 ⟨rfl, rfl⟩
      go_wp2_with fail
      refine (Hn.out _).mono ?_
      rintro e w1 ⟨rfl, rfl⟩
      rw [show numericB 2 = true from rfl]
      go_wp2_with fail
      go_ret
      exact ⟨rfl, rfl⟩
    · have Hn := Lib.hid (specNumeric_any 3)
      go_enter Tryz.func126, Tryz.ntmps126
      go_wp2_with fail
      refine (specKind_yes _ _ (by decide)).mono ?_
      rintro e w1 ⟨rfl, rfl⟩
      go_wp2_with fail
      refine (Hn.out _).mono ?_
      rintro e w1 ⟨rfl, rfl⟩
      rw [show numericB 3 = true from rfl]
      go_wp2_with fail
      go_ret
      exact ⟨rfl, rfl⟩
    · go_enter Tryz.func126, Tryz.ntmps126
      go_wp2_with fail
      refine (specKind_yes _ _ (by decide)).mono ?_
      rintro e w1 ⟨rfl, rfl⟩
      go_wp2_with fail
      go_ret
      exact ⟨rfl, rfl⟩
    · go_enter Tryz.func126, Tryz.ntmps126
      go_wp2_with fail
      refine (specKind_yes _ _ (by decide)).mono ?_
      rintro e w1 ⟨rfl, rfl⟩
      go_wp2_with fail
      go_ret
      exact ⟨rfl, rfl⟩
    · have Hn := Lib.hid (specNumeric_any 6)
      go_enter Tryz.func126, Tryz.ntmps126
      go_wp2_with fail
      refine (specKind_yes _ _ (by decide)).mono ?_
      rintro e w1 ⟨rfl, rfl⟩
      go_wp2_with fail
      refine (Hn.out _).mono ?_
      rintro e w1 ⟨rfl, rfl⟩
      rw [show numericB 6 = false from rfl]
      go_wp2_with fail
      go_ret
      exact ⟨rfl, rfl⟩
    · have Hn := Lib.hid (specNumeric_any 7)
      go_enter Tryz.func126, Tryz.ntmps126
      go_wp2_with fail
      refine (specKind_yes _ _ (by decide)).mono ?_
      rintro e w1 ⟨rfl, rfl⟩
      go_wp2_with fail
      refine (Hn.out _).mono ?_
      rintro e w1 ⟨rfl, rfl⟩
      rw [show numericB 7 = false from rfl]
      go_wp2_with fail
      go_ret
      exact ⟨rfl, rfl⟩
    · have Hn := Lib.hid (specNumeric_any 8)
      go_enter Tryz.func126, Tryz.ntmps126
      go_wp2_with fail
      refine (specKind_yes _ _ (by decide)).mono ?_
      rintro e w1 ⟨rfl, rfl⟩
      go_wp2_with fail
      refine (Hn.out _).mono ?_
      rintro e w1 ⟨rfl, rfl⟩
      rw [show numericB 8 = false from rfl]
      go_wp2_with fail
      go_ret
      exact ⟨rfl, rfl⟩
  · have He : Hid (wireR k = -1) := Lib.hid (if_pos h)
    have H := Lib.hid h; clear h
    go_enter Tryz.func126, Tryz.ntmps126
    go_wp2_with fail
    refine (specKind_no _ _ H.out).mono ?_
    rintro e w1 ⟨rfl, rfl⟩
    go_wp2_with fail
    go_ret
    exact ⟨by rw [He.out]; rfl, rfl⟩
end Go.Proofs.YtpkofbdfnbpfpaaGreat.Num
