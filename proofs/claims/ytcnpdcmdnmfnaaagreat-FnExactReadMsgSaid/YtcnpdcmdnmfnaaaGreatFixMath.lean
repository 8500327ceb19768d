/-
  Plain lemmas on little-endian integers as lists of bytes.
-/
import Derived.Test.YtcnpdcmdnmfnaaaGreatVarMath
namespace Go.Proofs.YtcnpdcmdnmfnaaaGreat.Fix
open Var

/-- The value of little-endian bytes. -/
def le : List UInt8 → Nat
  | [] => 0
  | c :: r => c.toNat + 256 * le r
/-- u in n little-endian bytes. -/
def leb : Nat → Nat → List UInt8
  | 0, _ => []
  | n + 1, u => by' (u % 256) :: leb n (u / 256)
theorem leb_length : ∀ n u, (leb n u).length = n
  | 0, _ => rfl
  | n + 1, u => by simp only [leb, List.length_cons]; rw [leb_length n (u / 256)]
theorem le_leb : ∀ n u, u < 256 ^ n → le (leb n u) = u
  | 0, u, h => by simp [leb, le]; omega
  | n + 1, u, h => by
    simp only [leb, le]
    rw [by_toNat (by omega), le_leb n (u / 256) (by rw [Nat.pow_succ] at h; omega)]
    omega
theorem by_self (c : UInt8) : by' c.toNat = c := by unfold by'; simp
theorem leb_le : ∀ l, leb l.length (le l) = l
  | [] => rfl
  | c :: r => by
    have hc := c.toNat_lt
    simp only [le, List.length_cons, leb]
    rw [show (c.toNat + 256 * le r) % 256 = c.toNat by omega, show (c.toNat + 256 * le r) / 256 = le r by omega, leb_le r, by_self]
theorem le_lt : ∀ l, le l < 256 ^ l.length
  | [] => by simp [le]
  | c :: r => by
    have hc := c.toNat_lt
    have ih := le_lt r
    simp only [le, List.length_cons, Nat.pow_succ]
    omega
theorem le_snoc : ∀ l c, le (l ++ [c]) = le l + c.toNat * 256 ^ l.length
  | [], c => by simp [le]
  | d :: r, c => by
    simp only [List.cons_append, le, List.length_cons]
    rw [le_snoc r c, Nat.pow_succ, Nat.mul_add, ← Nat.add_assoc, ← Nat.mul_assoc, Nat.mul_comm 256 c.toNat, Nat.mul_assoc, Nat.mul_comm 256 (256 ^ r.length)]
theorem leb_snoc : ∀ n u, leb (n + 1) u = leb n u ++ [by' (u / 256 ^ n % 256)]
  | 0, u => by simp [leb]
  | n + 1, u => by
    rw [show leb (n + 1 + 1) u = by' (u % 256) :: leb (n + 1) (u / 256) from rfl, leb_snoc n (u / 256), Nat.div_div_eq_div_mul, ← Nat.pow_succ']
    rfl
theorem pow_256 (k : Nat) : 2 ^ (8 * k) = 256 ^ k := by rw [Nat.pow_mul]
theorem div_lt_pow {u n : Nat} : u / 256 ^ n = 0 ↔ u < 256 ^ n := by
  rw [Nat.div_eq_zero_iff]
  have := Nat.pow_pos (n := n) (show 0 < 256 by omega)
  omega
end Go.Proofs.YtcnpdcmdnmfnaaaGreat.Fix
