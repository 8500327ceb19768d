/-
  The walk of the reference's GetVar: it gives what the plain reader of a varint gives.
-/
import Derived.Test.YtpkofbdfnbpfpaaVar
namespace Go.Proofs.Ytpkofbdfnbpfpaa.Num
open Go.RowKit Go.Proofs

/-- The answer of GetVar out of what a reader finds: value, place, what is wrong. -/
def resV (s : ByteArray) (a : Int) : Var.Res → Int × Int × Int
  | .more => (0, s.size, 1)
  | .over k => (0, a + k, 2)
  | .done v m => (v, a + m, 0)
def getR (s : ByteArray) (a : Int) : Int × Int × Int := if 0 ≤ a ∧ a ≤ s.size then resV s a (Var.scan 0 0 (s.data.toList.drop a.toNat)) else (0, 0, 1)
def getV (r : Int × Int × Int) : Value := .tuple #[.int .u64 r.1, .int .i64 r.2.1, .int .i64 r.2.2]
theorem getV_eq {a a' b b' : Int} (h1 : a = a') (h2 : b = b') : Ending.returned (.tuple #[.int .u64 a, .int .i64 b, .int .i64 0]) = .returned (getV (a', b', 0)) := by rw [h1, h2]; rfl
theorem drop_at (s : ByteArray) (k : Nat) (h : k < s.size) : s.data.toList.drop k = s[k] :: s.data.toList.drop (k + 1) := by
  have h2 : k < s.data.toList.length := by simpa using h
  rw [List.drop_eq_getElem_cons h2]; rfl
theorem drop_all (s : ByteArray) (k : Nat) (h : s.size ≤ k) : s.data.toList.drop k = [] := List.drop_eq_nil_of_le (by simpa using h)
theorem two7 (k : Nat) (hk : k ≤ 8) : 2 ^ (7 * k) * 128 ≤ 9223372036854775808 := by
  have : 2 ^ (7 * k) * 128 = 2 ^ (7 * k + 7) := by rw [Nat.pow_add]
  rw [this]
  exact Nat.le_trans (Nat.pow_le_pow_right (by omega) (show 7 * k + 7 ≤ 63 by omega)) (by decide)
theorem shiftAdd (u k c : Nat) (hu : u < 2 ^ (7 * k)) (hk : k ≤ 8 ∨ (k = 9 ∧ c ≤ 1)) :
    IntKind.u64.wrap ((u : Int) + IntKind.u64.wrap ((c : Int) % 128 * 2 ^ (7 * k))) = ((u + c % 128 * 2 ^ (7 * k) : Nat) : Int) := by
  have hx : u + c % 128 * 2 ^ (7 * k) ≤ 18446744073709551615 := by
    rcases hk with hk | ⟨rfl, hc⟩
    · have h1 := two7 k hk
      have h2 : c % 128 * 2 ^ (7 * k) ≤ 127 * 2 ^ (7 * k) := Nat.mul_le_mul_right _ (by omega)
      omega
    · simp only [Nat.reduceMul, Nat.reducePow] at hu ⊢
      have : c % 128 ≤ 1 := by omega
      omega
  have e : (c : Int) % 128 * 2 ^ (7 * k) = ((c % 128 * 2 ^ (7 * k) : Nat) : Int) := by simp
  rw [e]
  generalize c % 128 * 2 ^ (7 * k) = x at hx
  rw [IntKind.wrap_u64, IntKind.wrap_u64]
  omega
theorem shiftAdd9 (u c : Nat) (hu : u < 2 ^ (7 * 9)) (hc : c ≤ 1) : IntKind.u64.wrap ((u : Int) + (c : Int) % 128 * 9223372036854775808) = ((u + c % 128 * 2 ^ (7 * 9) : Nat) : Int) := by
  simp only [Nat.reduceMul, Nat.reducePow] at hu ⊢
  rw [IntKind.wrap_u64]
  omega
theorem scan_step {k u : Nat} {c : UInt8} {r : List UInt8} (hk : k ≤ 8) (hc : 128 ≤ c.toNat) : Var.scan k u (c :: r) = Var.scan (k + 1) (u + c.toNat % 128 * 2 ^ (7 * k)) r := by
  simp only [Var.scan]; rw [if_neg (by omega), if_neg (by omega)]
theorem scan_stop {k u : Nat} {c : UInt8} {r : List UInt8} (hk : k ≤ 8 ∨ (k = 9 ∧ c.toNat ≤ 1)) (hc : c.toNat < 128) : Var.scan k u (c :: r) = .done (u + c.toNat % 128 * 2 ^ (7 * k)) (k + 1) := by
  simp only [Var.scan]; rw [if_neg (by omega), if_pos hc]
theorem scan_far {u : Nat} {c : UInt8} {r : List UInt8} (hc : 1 < c.toNat) : Var.scan 9 u (c :: r) = .over 9 := by
  simp only [Var.scan]; rw [if_pos ⟨trivial, hc⟩]
theorem step_lt {u k c : Nat} (hu : u < 2 ^ (7 * k)) : u + c % 128 * 2 ^ (7 * k) < 2 ^ (7 * (k + 1)) := by
  have hp : 2 ^ (7 * (k + 1)) = 128 * 2 ^ (7 * k) := by rw [Nat.mul_succ, Nat.pow_add]; omega
  have h2 : c % 128 * 2 ^ (7 * k) ≤ 127 * 2 ^ (7 * k) := Nat.mul_le_mul_right _ (by omega)
  omega
end Go.Proofs.Ytpkofbdfnbpfpaa.Num
