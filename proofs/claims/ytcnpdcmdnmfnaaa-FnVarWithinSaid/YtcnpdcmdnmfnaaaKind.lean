/-
  The walks of the reference's KindWord, Numeric, WireOf and BitsFit: they give what the plain definitions here say; only new memory is written.
-/
import Derived.Test.YtcnpdcmdnmfnaaaIn
import Derived.Lib.Hide
import Derived.WalkLawsBesides
import Derived.WalkSpells
namespace Go.Proofs.Ytcnpdcmdnmfnaaa.Num
open Go.RowKit Go.Proofs
set_option linter.unusedVariables false

def numericB (k : Int) : Bool := decide (1 ≤ k ∧ k ≤ 5)
def kindB (k : Int) : Bool := decide (1 ≤ k ∧ k ≤ 8)
def wordR (k : Int) : ByteArray :=
  if k = 1 then ⟨#[117, 105, 110, 116]⟩
  else if k = 2 then ⟨#[115, 105, 110, 116]⟩
  else if k = 3 then ⟨#[98, 111, 111, 108]⟩
  else if k = 4 then ⟨#[102, 111, 117, 114]⟩
  else if k = 5 then ⟨#[101, 105, 103, 104, 116]⟩
  else if k = 6 then ⟨#[116, 101, 120, 116]⟩
  else if k = 7 then ⟨#[98, 121, 116, 101, 115]⟩
  else if k = 8 then ⟨#[109, 115, 103]⟩
  else ⟨#[]⟩
def wireR (k : Int) : Int := if ¬ (1 ≤ k ∧ k ≤ 8) then -1 else if k = 4 then 5 else if k = 5 then 1 else if k ≤ 5 then 0 else 2
def fitB (k : Int) (u : Nat) : Bool := if k = 3 then decide (u ≤ 1) else if k = 4 then decide (u ≤ 4294967295) else numericB k
theorem kind_cases (k : Int) : (k = 1 ∨ k = 2 ∨ k = 3 ∨ k = 4 ∨ k = 5 ∨ k = 6 ∨ k = 7 ∨ k = 8) ∨ ¬ (1 ≤ k ∧ k ≤ 8) := by omega
theorem eqF {x c : Int} (h : x ≠ c) : (x == c) = false := by rw [beq_eq_false_iff_ne]; exact h
theorem sIn_yes (x lo hi : Int) (w : World) (h : lo ≤ x ∧ x ≤ hi) : Calls Try.prog 29 #[.int .i64 x, .int .i64 lo, .int .i64 hi] w fun e w' => e = .returned (.bool true) ∧ w = w' :=
  (specIn_any x lo hi w).mono fun e w' ⟨he, hw⟩ => ⟨by rw [he, decide_eq_true h], hw⟩
theorem sIn_no (x lo hi : Int) (w : World) (h : ¬ (lo ≤ x ∧ x ≤ hi)) : Calls Try.prog 29 #[.int .i64 x, .int .i64 lo, .int .i64 hi] w fun e w' => e = .returned (.bool false) ∧ w = w' :=
  (specIn_any x lo hi w).mono fun e w' ⟨he, hw⟩ => ⟨by rw [he, decide_eq_false h], hw⟩
theorem specKind_yes (k : Int) (w : World) (h : 1 ≤ k ∧ k ≤ 8) : Calls Try.prog 57 #[.int .i64 k] w fun e w' => e = .returned (.bool true) ∧ w = w' := by
  go_enter Try.func57, Try.ntmps57
  go_wp2_with fail
  refine (sIn_yes k 1 8 _ h).mono ?_
  rintro e w1 ⟨rfl, rfl⟩
  go_wp2_with fail
  go_ret
  exact ⟨rfl, rfl⟩
theorem specKind_no (k : Int) (w : World) (h : ¬ (1 ≤ k ∧ k ≤ 8)) : Calls Try.prog 57 #[.int .i64 k] w fun e w' => e = .returned (.bool false) ∧ w = w' := by
  have H := Lib.hid h; clear h
  go_enter Try.func57, Try.ntmps57
  go_wp2_with fail
  refine (sIn_no k 1 8 _ H.out).mono ?_
  rintro e w1 ⟨rfl, rfl⟩
  go_wp2_with fail
  go_ret
  exact ⟨rfl, rfl⟩
theorem specNumeric_any (k : Int) (w : World) : Calls Try.prog 32 #[.int .i64 k] w fun e w' => e = .returned (.bool (numericB k)) ∧ w = w' := by
  unfold numericB
  by_cases h : 1 ≤ k ∧ k ≤ 5
  · rw [decide_eq_true h]
    go_enter Try.func32, Try.ntmps32
    go_wp2_with fail
    refine (sIn_yes k 1 5 _ h).mono ?_
    rintro e w1 ⟨rfl, rfl⟩
    go_wp2_with fail
    go_ret
    exact ⟨rfl, rfl⟩
  · rw [decide_eq_false h]
    have H := Lib.hid h; clear h
    go_enter Try.func32, Try.ntmps32
    go_wp2_with fail
    refine (sIn_no k 1 5 _ H.out).mono ?_
    rintro e w1 ⟨rfl, rfl⟩
    go_wp2_with fail
    go_ret
    exact ⟨rfl, rfl⟩
theorem specBitsFit_any (k : Int) (u : Nat) (w : World) : Calls Try.prog 15 #[.int .i64 k, .int .u64 u] w fun e w' => e = .returned (.bool (fitB k u)) ∧ w = w' := by
  by_cases h3 : k = 3
  · subst h3
    have He : fitB 3 u = decide (u ≤ 1) := rfl
    rw [He]
    by_cases hu : u ≤ 1
    · have d1 : decide (u ≤ 1) = true := decide_eq_true hu
      have d2 : decide ((u : Int) ≤ 1) = true := decide_eq_true (by omega)
      rw [d1]
      clear He hu
      go_enter Try.func15, Try.ntmps15
      go_wp2_with fail
      go_ret
      exact ⟨rfl, rfl⟩
    · have d1 : decide (u ≤ 1) = false := decide_eq_false hu
      have d2 : decide ((u : Int) ≤ 1) = false := decide_eq_false (by omega)
      rw [d1]
      clear He hu
      go_enter Try.func15, Try.ntmps15
      go_wp2_with fail
      go_ret
      exact ⟨rfl, rfl⟩
  · by_cases h4 : k = 4
    · subst h4
      have He : fitB 4 u = decide (u ≤ 4294967295) := rfl
      rw [He]
      by_cases hu : u ≤ 4294967295
      · have d1 : decide (u ≤ 4294967295) = true := decide_eq_true hu
        have d2 : decide ((u : Int) ≤ 4294967295) = true := decide_eq_true (by omega)
        rw [d1]
        clear He hu
        go_enter Try.func15, Try.ntmps15
        go_wp2_with fail
        go_ret
        exact ⟨rfl, rfl⟩
      · have d1 : decide (u ≤ 4294967295) = false := decide_eq_false hu
        have d2 : decide ((u : Int) ≤ 4294967295) = false := decide_eq_false (by omega)
        rw [d1]
        clear He hu
        go_enter Try.func15, Try.ntmps15
        go_wp2_with fail
        go_ret
        exact ⟨rfl, rfl⟩
    · have He : Hid (fitB k u = numericB k) := Lib.hid (by unfold fitB; rw [if_neg h3, if_neg h4])
      have b3 := eqF h3
      have b4 := eqF h4
      have Hn := Lib.hid (specNumeric_any k)
      rw [He.out]
      generalize numericB k = R at Hn
      clear h3 h4 He
      go_enter Try.func15, Try.ntmps15
      go_wp2_with fail
      refine (Hn.out _).mono ?_
      rintro e w1 ⟨rfl, rfl⟩
      go_wp2_with fail
      go_ret
      exact ⟨rfl, rfl⟩
end Go.Proofs.Ytcnpdcmdnmfnaaa.Num
