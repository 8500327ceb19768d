/-
  Several texts in one: VarBits.
-/
import Derived.Test.YtpkofbdfnbpfpaaGreatXSpecA
import Derived.Lib.BitFns

/-
  Plain lemmas on how the program writes a varint: its length told by bits, bytes with the high bit set, the last byte without it, bits laid above bits.
-/
namespace Go.Proofs.YtpkofbdfnbpfpaaGreat.Var
open Go.Lib
/-- n bytes of u, each with the high bit set. -/
def wide : Nat → Nat → List UInt8
  | 0, _ => []
  | n + 1, u => by' (u % 128 + 128) :: wide n (u / 128)
/-- Bits above bits. -/
theorem or_above (u c k : Nat) (h : u < 2 ^ k) : u ||| c * 2 ^ k = u + c * 2 ^ k := by
  rw [Nat.or_comm, Nat.mul_comm c, ← Nat.two_pow_add_eq_or_of_lt h, Nat.add_comm]
end Go.Proofs.YtpkofbdfnbpfpaaGreat.Var

