/-
  Plain lemmas on how the program writes a varint: its length told by bits, bytes with the high bit set, the last byte without it, bits laid above bits.
-/
import Derived.Test.YtpkofbdfnbpfpaaVarMath
import Derived.Lib.BitFns
namespace Go.Proofs.Ytpkofbdfnbpfpaa.Var
open Go.Lib

theorem or_one (u : Nat) : u ||| 1 = 2 * (u / 2) + 1 := by
  have h1 : (u ||| 1) / 2 = u / 2 := by rw [Nat.or_div_two]; simp
  have h2 : (u ||| 1) % 2 = 1 := by rw [Nat.or_mod_two_eq_one]; exact .inr rfl
  omega
theorem bitLen_or_one (u : Nat) (h0 : u ≠ 0) (h : u < 2 ^ 64) : bitLen (u ||| 1) = bitLen u := by
  rw [or_one, bitLen_half (2 * (u / 2) + 1) (by omega) (by omega), bitLen_half u h0 h]
  congr 2
  omega
theorem bitLen_small : ∀ n : Fin 128, 1 ≤ bitLen (n.val ||| 1) ∧ bitLen (n.val ||| 1) ≤ 7 := by decide +kernel
/-- The length of a varint by the number of its bits. -/
theorem varLen_bits (u : Nat) (h : u ≤ 18446744073709551615) : (bitLen (u ||| 1) + 6) / 7 = varLen u := by
  induction u using varLen_induct with
  | hs u hu =>
    have := bitLen_small ⟨u, by omega⟩
    simp only at this
    rw [varLen_small hu]; omega
  | hb u hu ih =>
    have ih := ih (by omega)
    rw [varLen_big hu, ← ih, bitLen_or_one (u / 128) (by omega) (by omega), bitLen_or_one u (by omega) (by omega), bitLen_shift 7 u (by omega) (by omega), show (2 : Nat) ^ 7 = 128 from rfl]
    omega
/-- n bytes of u, each with the high bit set. -/
def wide : Nat → Nat → List UInt8
  | 0, _ => []
  | n + 1, u => by' (u % 128 + 128) :: wide n (u / 128)
theorem wide_length : ∀ n u, (wide n u).length = n
  | 0, _ => rfl
  | n + 1, u => by simp only [wide, List.length_cons]; rw [wide_length n (u / 128)]
theorem wide_snoc : ∀ n u, wide (n + 1) u = wide n u ++ [by' (u / 128 ^ n % 128 + 128)]
  | 0, u => by simp [wide]
  | n + 1, u => by
    rw [show wide (n + 1 + 1) u = by' (u % 128 + 128) :: wide (n + 1) (u / 128) from rfl, wide_snoc n (u / 128), Nat.div_div_eq_div_mul, ← Nat.pow_succ']
    rfl
theorem enc_wide : ∀ n u, enc (n + 1) u = wide n u ++ [by' (u / 128 ^ n % 128)]
  | 0, u => by simp [wide, enc]
  | n + 1, u => by
    rw [show enc (n + 1 + 1) u = by' (u % 128 + 128) :: enc (n + 1) (u / 128) from rfl, enc_wide n (u / 128), Nat.div_div_eq_div_mul, ← Nat.pow_succ']
    rfl
theorem or_high (x : Nat) (h : x < 256) : x ||| 128 = x % 128 + 128 := by
  have : ∀ n : Fin 256, n.val ||| 128 = n.val % 128 + 128 := by decide +kernel
  exact this ⟨x, h⟩
theorem and_low (x : Nat) (h : x < 256) : x &&& 127 = x % 128 := by
  have : ∀ n : Fin 256, n.val &&& 127 = n.val % 128 := by decide +kernel
  exact this ⟨x, h⟩
/-- Bits above bits. -/
theorem or_above (u c k : Nat) (h : u < 2 ^ k) : u ||| c * 2 ^ k = u + c * 2 ^ k := by
  rw [Nat.or_comm, Nat.mul_comm c, ← Nat.two_pow_add_eq_or_of_lt h, Nat.add_comm]
end Go.Proofs.Ytpkofbdfnbpfpaa.Var
