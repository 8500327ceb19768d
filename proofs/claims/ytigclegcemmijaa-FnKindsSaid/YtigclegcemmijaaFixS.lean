/-
  The bytes of PutFix, plainly.
-/
import Derived.Test.YtigclegcemmijaaFixMath
namespace Go.Proofs.Ytigclegcemmijaa.Num
set_option linter.unusedVariables false

def fixW (n : Int) : Bool := decide (n = 4 ∨ n = 8)
/-- u in so many bytes, or nothing. -/
def fixS (u : Nat) (n : Int) : ByteArray := if (n = 4 ∨ n = 8) ∧ u < 256 ^ n.toNat then ⟨(Fix.leb n.toNat u).toArray⟩ else ⟨#[]⟩
theorem fixS_no {u : Nat} {n : Int} (h : ¬ ((n = 4 ∨ n = 8) ∧ u < 256 ^ n.toNat)) : fixS u n = ⟨#[]⟩ := by unfold fixS; rw [if_neg h]
theorem fixS_yes {u : Nat} {n : Int} (h : (n = 4 ∨ n = 8) ∧ u < 256 ^ n.toNat) : fixS u n = ⟨(Fix.leb n.toNat u).toArray⟩ := by unfold fixS; rw [if_pos h]
end Go.Proofs.Ytigclegcemmijaa.Num
