/-
  Plain lemmas: what one byte does to the state of a number that is read byte by byte.
-/
import Derived.Test.YtcnpdcmdnmfnaaaScanByte
namespace Go.Proofs.Ytcnpdcmdnmfnaaa.Num
open Go.RowKit Go.Proofs
set_option linter.unusedVariables false
theorem scanOk_nat {b k : Nat} (hk : k ≤ 9) (hb : b < 2 ^ (7 * k)) : scanOkB b (k : Int) = true := by
  unfold scanOkB; rw [Bool.and_eq_true, decide_eq_true_iff, decide_eq_true_iff]; exact ⟨by omega, by rw [Int.toNat_natCast]; exact hb⟩
theorem byteR_over {b : Nat} {c : UInt8} (hb : b < 2 ^ (7 * 9)) (hc : 1 < c.toNat) : scanByteR b ((9 : Nat) : Int) (c.toNat : Int) = (b, ((9 : Nat) : Int), 2) := by
  unfold scanByteR; rw [if_neg]; intro h; exact h.2.2 ⟨rfl, by omega⟩
theorem byteR_ok {b k : Nat} {c : UInt8} (hk : k ≤ 9) (hb : b < 2 ^ (7 * k)) (hc : ¬ (k = 9 ∧ 1 < c.toNat)) : scanByteR b (k : Int) (c.toNat : Int) = (b + c.toNat % 128 * 2 ^ (7 * k), ((k + 1 : Nat) : Int), if c.toNat < 128 then 1 else 0) := by
  have h8 := c.toNat_lt
  unfold scanByteR
  rw [if_pos ⟨scanOk_nat hk hb, by omega, by omega⟩, Int.toNat_natCast, Int.toNat_natCast]
  by_cases h : c.toNat < 128
  · rw [if_pos h, if_pos (by omega)]; rfl
  · rw [if_neg h, if_neg (by omega)]; rfl
end Go.Proofs.Ytcnpdcmdnmfnaaa.Num
