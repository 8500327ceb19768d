/-
  The walk of the reference's GetVar: it gives what the plain reader of a varint gives.
-/
import Derived.Test.YtcnpdcmdnmfnaaaVar
namespace Go.Proofs.Ytcnpdcmdnmfnaaa.Num
open Go.RowKit Go.Proofs

/-- The answer of GetVar out of what a reader finds: value, place, what is wrong. -/
def resV (s : ByteArray) (a : Int) : Var.Res → Int × Int × Int
  | .more => (0, s.size, 1)
  | .over k => (0, a + k, 2)
  | .done v m => (v, a + m, 0)
def getR (s : ByteArray) (a : Int) : Int × Int × Int := if 0 ≤ a ∧ a ≤ s.size then resV s a (Var.scan 0 0 (s.data.toList.drop a.toNat)) else (0, 0, 1)
def getV (r : Int × Int × Int) : Value := .tuple #[.int .u64 r.1, .int .i64 r.2.1, .int .i64 r.2.2]
theorem getV_eq {a a' b b' : Int} (h1 : a = a') (h2 : b = b') : Ending.returned (.tuple #[.int .u64 a, .int .i64 b, .int .i64 0]) = .returned (getV (a', b', 0)) := by rw [h1, h2]; rfl
theorem drop_at (s : ByteArray) (k : Nat) (h : k < s.size) : s.data.toList.drop k = s[k] :: s.data.toList.drop (k + 1) := by
  have h2 : k < s.data.toList.length := by simpa using h
  rw [List.drop_eq_getElem_cons h2]; rfl
theorem drop_all (s : ByteArray) (k : Nat) (h : s.size ≤ k) : s.data.toList.drop k = [] := List.drop_eq_nil_of_le (by simpa using h)
theorem two7 (k : Nat) (hk : k ≤ 8) : 2 ^ (7 * k) * 128 ≤ 9223372036854775808 := by
  have : 2 ^ (7 * k) * 128 = 2 ^ (7 * k + 7) := by rw [Nat.pow_add]
  rw [this]
  exact Nat.le_trans (Nat.pow_le_pow_right (by omega) (show 7 * k + 7 ≤ 63 by omega)) (by decide)
theorem shiftAdd (u k c : Nat) (hu : u < 2 ^ (7 * k)) (hk : k ≤ 8 ∨ (k = 9 ∧ c ≤ 1)) :
    IntKind.u64.wrap ((u : Int) + IntKind.u64.wrap ((c : Int) % 128 * 2 ^ (7 * k))) = ((u + c % 128 * 2 ^ (7 * k) : Nat) : Int) := by
  have hx : u + c % 128 * 2 ^ (7 * k) ≤ 18446744073709551615 := by
    rcases hk with hk | ⟨rfl, hc⟩
    · have h1 := two7 k hk
      have h2 : c % 128 * 2 ^ (7 * k) ≤ 127 * 2 ^ (7 * k) := Nat.mul_le_mul_right _ (by omega)
      omega
    · simp only [Nat.reduceMul, Nat.reducePow] at hu ⊢
      have : c % 128 ≤ 1 := by omega
      omega
  have e : (c : Int) % 128 * 2 ^ (7 * k) = ((c % 128 * 2 ^ (7 * k) : Nat) : Int) := by simp
  rw [e]
  generalize c % 128 * 2 ^ (7 * k) = x at hx
  rw [IntKind.wrap_u64, IntKind.wrap_u64]
  omega
theorem shiftAdd9 (u c : Nat) (hu : u < 2 ^ (7 * 9)) (hc : c ≤ 1) : IntKind.u64.wrap ((u : Int) + (c : Int) % 128 * 9223372036854775808) = ((u + c % 128 * 2 ^ (7 * 9) : Nat) : Int) := by
  simp only [Nat.reduceMul, Nat.reducePow] at hu ⊢
  rw [IntKind.wrap_u64]
  omega
theorem scan_step {k u : Nat} {c : UInt8} {r : List UInt8} (hk : k ≤ 8) (hc : 128 ≤ c.toNat) : Var.scan k u (c :: r) = Var.scan (k + 1) (u + c.toNat % 128 * 2 ^ (7 * k)) r := by
  simp only [Var.scan]; rw [if_neg (by omega), if_neg (by omega)]
theorem scan_stop {k u : Nat} {c : UInt8} {r : List UInt8} (hk : k ≤ 8 ∨ (k = 9 ∧ c.toNat ≤ 1)) (hc : c.toNat < 128) : Var.scan k u (c :: r) = .done (u + c.toNat % 128 * 2 ^ (7 * k)) (k + 1) := by
  simp only [Var.scan]; rw [if_neg (by omega), if_pos hc]
theorem scan_far {u : Nat} {c : UInt8} {r : List UInt8} (hc : 1 < c.toNat) : Var.scan 9 u (c :: r) = .over 9 := by
  simp only [Var.scan]; rw [if_pos ⟨trivial, hc⟩]
theorem step_lt {u k c : Nat} (hu : u < 2 ^ (7 * k)) : u + c % 128 * 2 ^ (7 * k) < 2 ^ (7 * (k + 1)) := by
  have hp : 2 ^ (7 * (k + 1)) = 128 * 2 ^ (7 * k) := by rw [Nat.mul_succ, Nat.pow_add]; omega
  have h2 : c % 128 * 2 ^ (7 * k) ≤ 127 * 2 ^ (7 * k) := Nat.mul_le_mul_right _ (by omega)
  omega
set_option maxHeartbeats 800000 in
set_option maxRecDepth 100000 in
theorem specGetVar_in (s : ByteArray) (A : Nat) (w : World) (hs : s.size ≤ 281474976710656) (hA : A ≤ s.size) :
    Calls Try.prog 12 #[.string s, .int .i64 A] w fun e w' => e = .returned (getV (getR s A)) ∧ Below w.heap.size w w' := by
  have Hr : Hid (getR s A = resV s A (Var.scan 0 0 (s.data.toList.drop A))) := Lib.hid (by unfold getR; rw [if_pos ⟨by omega, by omega⟩, Int.toNat_natCast])
  have hA2 : (A : Int) ≤ (s.size : Int) := by omega
  have hA0 : (0 : Int) ≤ (A : Int) := by omega
  go_enter Try.func12, Try.ntmps12
  go_wp2_with fail
  refine (specIn_any _ _ _ _).mono ?_
  rintro e w3 ⟨rfl, rfl⟩
  have hd : decide ((0 : Int) ≤ (A : Int) ∧ (A : Int) ≤ (s.size : Int)) = true := decide_eq_true ⟨hA0, hA2⟩
  go_wp2_with fail
  go_loop [7, 8, 9] (fun x i _ => ∃ (k u : Nat), k ≤ 9 ∧ A + k ≤ s.size ∧ i = .int .i64 k ∧ x = .int .u64 u ∧ Hid (u < 2 ^ (7 * k)) ∧ Hid (Var.scan 0 0 (s.data.toList.drop A) = Var.scan k u (s.data.toList.drop (A + k)))) (fun _ i _ => 10 - (intOf i).toNat)
  case atStart => exact ⟨0, 0, by omega, hA, rfl, rfl, Lib.hid (by decide), Lib.hid rfl⟩
  case round =>
    obtain ⟨k, u, hk, hAk, rfl, rfl, hu, hsc⟩ := hrel
    have h10 : (k : Int) < 10 := by omega
    by_cases hend : A + k < s.size
    · have hc : s[A + k].toNat < 256 := s[A + k].toNat_lt
      have hlt1 : (A : Int) + (k : Int) < (s.size : Int) := by omega
      have hlt0 : (0 : Int) ≤ (A : Int) + (k : Int) := by omega
      have hw1 : IntKind.i64.wrap ((A : Int) + (k : Int)) = (A : Int) + (k : Int) := IntWalk.i64_in _ (by omega)
      have Hdr := Lib.hid (drop_at s (A + k) hend)
      by_cases h9 : (k : Int) = 9
      · have hk9 : k = 9 := by omega
        subst hk9
        clear h10 hk h9
        by_cases hc1 : (1 : Int) < (s[A + 9].toNat : Int)
        · go_wp2_with fail
          go_ret3
          exact ⟨by rw [Hr.out, hsc.out, Hdr.out, scan_far (by omega)]; rfl, Below.refl _ _⟩
        · have hc128 : (s[A + 9].toNat : Int) < 128 := by omega
          have Hsh := Lib.hid (shiftAdd9 u s[A + 9].toNat hu.out (by omega))
          go_wp2_with fail
          go_ret3
          exact ⟨by rw [Hr.out, hsc.out, Hdr.out, scan_stop (.inr ⟨rfl, by omega⟩) (by omega)]; exact getV_eq Hsh.out (by omega), Below.refl _ _⟩
      · have h9b : ((k : Int) == 9) = false := by rw [beq_eq_false_iff_ne]; exact h9
        have Hk8 : Hid (k ≤ 8) := Lib.hid (by omega)
        have Hsh := Lib.hid (shiftAdd u k s[A + k].toNat hu.out (.inl Hk8.out))
        by_cases hc128 : (s[A + k].toNat : Int) < 128
        · go_wp2_with fail
          go_ret3
          exact ⟨by rw [Hr.out, hsc.out, Hdr.out, scan_stop (.inl Hk8.out) (by omega)]; exact getV_eq Hsh.out (by omega), Below.refl _ _⟩
        · go_wp2_with fail
          rw [Hsh.out]
          exact ⟨⟨k + 1, _, by have := Hk8.out; omega, by omega, by go_num, rfl, Lib.hid (step_lt hu.out), Lib.hid (by rw [hsc.out, Hdr.out, scan_step Hk8.out (by omega)]; rfl)⟩, by simp [intOf]; omega⟩
    · have hge : (s.size : Int) ≤ (A : Int) + (k : Int) := by omega
      have hw1 : IntKind.i64.wrap ((A : Int) + (k : Int)) = (A : Int) + (k : Int) := IntWalk.i64_in _ (by omega)
      go_wp2_with fail
      go_ret3
      exact ⟨by rw [Hr.out, hsc.out, drop_all s _ (by omega)]; rfl, Below.refl _ _⟩
theorem specGetVar_out (s : ByteArray) (a : Int) (w : World) (hA : ¬ (0 ≤ a ∧ a ≤ s.size)) :
    Calls Try.prog 12 #[.string s, .int .i64 a] w fun e w' => e = .returned (getV (getR s a)) ∧ Below w.heap.size w w' := by
  have Hr : Hid (getR s a = (0, 0, 1)) := Lib.hid (by unfold getR; rw [if_neg hA])
  have hd : decide (0 ≤ a ∧ a ≤ (s.size : Int)) = false := decide_eq_false hA
  go_enter Try.func12, Try.ntmps12
  go_wp2_with fail
  refine (specIn_any _ _ _ _).mono ?_
  rintro e w3 ⟨rfl, rfl⟩
  go_wp2_with fail
  go_ret3
  exact ⟨by rw [Hr.out]; rfl, Below.refl _ _⟩
theorem specGetVar_any (s : ByteArray) (a : Int) (w : World) (hs : s.size ≤ 281474976710656) :
    Calls Try.prog 12 #[.string s, .int .i64 a] w fun e w' => e = .returned (getV (getR s a)) ∧ Below w.heap.size w w' := by
  by_cases hA : 0 ≤ a ∧ a ≤ (s.size : Int)
  · obtain ⟨A, rfl⟩ := Int.eq_ofNat_of_zero_le hA.1
    exact specGetVar_in s A w hs (by have := hA.2; omega)
  · exact specGetVar_out s a w hA
end Go.Proofs.Ytcnpdcmdnmfnaaa.Num
