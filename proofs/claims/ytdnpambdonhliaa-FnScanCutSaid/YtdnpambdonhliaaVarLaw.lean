/-
  Plain lemmas on what GetVar gives for what PadVar and PutVar write, and the other way round.
-/
import Derived.Test.YtdnpambdonhliaaVarGet
namespace Go.Proofs.Ytdnpambdonhliaa.Num
open Go.RowKit Go.Proofs

theorem padS_in {u : Nat} {n : Int} (h : (Var.varLen u : Int) ≤ n ∧ n ≤ 10) : padS u n = ⟨(Var.enc n.toNat u).toArray⟩ := by unfold padS; rw [if_pos h]
theorem padS_out {u : Nat} {n : Int} (h : ¬ ((Var.varLen u : Int) ≤ n ∧ n ≤ 10)) : padS u n = ⟨#[]⟩ := by unfold padS; rw [if_neg h]
theorem padS_self (u : Nat) (hu : u ≤ 18446744073709551615) : padS u (Var.varLen u : Int) = varS u := by
  rw [padS_in ⟨Int.le_refl _, by have := Var.varLen_64 hu; omega⟩, Int.toNat_natCast]; rfl
/-- What PadVar wrote is read back behind two bytes. -/
theorem getR_pad (u N : Nat) (hu : u ≤ 18446744073709551615) (h1 : Var.varLen u ≤ N) (h2 : N ≤ 10) (x y z : UInt8) (t : ByteArray) (ht : t.data.toList = x :: y :: (Var.enc N u ++ [z])) : getR t 2 = ((u : Int), 2 + (N : Int), 0) := by
  have hp := Var.varLen_pos u
  have hs : t.size = 3 + N := by
    have := congrArg List.length ht
    simp only [List.length_cons, List.length_append, Var.enc_length, List.length_nil] at this
    have h3 : t.data.toList.length = t.size := by simp
    omega
  unfold getR
  rw [if_pos ⟨by omega, by omega⟩, show (2 : Int).toNat = 2 from rfl, ht]
  rw [show List.drop 2 (x :: y :: (Var.enc N u ++ [z])) = Var.enc N u ++ [z] from rfl]
  have hlt : u < 128 ^ N := Nat.lt_of_lt_of_le (Var.lt_pow_varLen u) (Nat.pow_le_pow_right (by omega) h1)
  rw [Var.scan_enc N u 0 0 [z] (by omega) (by omega) hlt (by omega)]
  simp only [resV]
  congr 1
  · simp
  · simp
theorem scan_cut : ∀ n v k u m, k + n ≤ 10 → m < n → Var.scan k u ((Var.enc n v).take m) = .more
  | 0, _, _, _, _, _, h => by omega
  | 1, v, k, u, m, _, h => by
    obtain rfl : m = 0 := by omega
    rfl
  | n + 2, v, k, u, m, hk, h => by
    cases m with
    | zero => rfl
    | succ m =>
      rw [show Var.enc (n + 2) v = Var.by' (v % 128 + 128) :: Var.enc (n + 1) (v / 128) from rfl, List.take_succ_cons]
      simp only [Var.scan]
      rw [Var.by_toNat (by omega), if_neg (by omega), if_neg (by omega)]
      exact scan_cut (n + 1) (v / 128) (k + 1) _ m (by omega) (by omega)
/-- Of a varint that is cut off more is wanted. -/
theorem getR_cut (u k : Nat) (hu : u ≤ 18446744073709551615) (hk : k < Var.varLen u) (t : ByteArray) (ht : t.data.toList = (Var.put u).take k) : getR t 0 = (0, (k : Int), 1) := by
  have hs : t.size = k := by
    have := congrArg List.length ht
    rw [List.length_take, Var.put_length] at this
    have h3 : t.data.toList.length = t.size := by simp
    omega
  unfold getR
  rw [if_pos ⟨by omega, by omega⟩, show (0 : Int).toNat = 0 from rfl, List.drop_zero, ht, show Var.put u = Var.enc (Var.varLen u) u from rfl, scan_cut _ _ _ _ _ (by have := Var.varLen_64 hu; omega) hk]
  simp only [resV]
  rw [hs]
/-- What GetVar read is what PadVar writes. -/
theorem getR_read (s : ByteArray) (a : Int) : (∃ (p : Int) (b : Int), (b = 1 ∨ b = 2) ∧ getR s a = (0, p, b)) ∨
    ∃ (A m v : Nat), a = A ∧ A + m ≤ s.size ∧ v ≤ 18446744073709551615 ∧ getR s a = ((v : Int), (A : Int) + (m : Int), 0) ∧ padS v (m : Int) = s.extract A (A + m) := by
  unfold getR
  by_cases h : 0 ≤ a ∧ a ≤ (s.size : Int)
  · rw [if_pos h]
    obtain ⟨A, rfl⟩ := Int.eq_ofNat_of_zero_le h.1
    rw [Int.toNat_natCast]
    cases hr : Var.scan 0 0 (s.data.toList.drop A) with
    | more => exact .inl ⟨_, 1, .inl rfl, rfl⟩
    | over k => exact .inl ⟨_, 2, .inr rfl, rfl⟩
    | done v m =>
      obtain ⟨n, x, hn, hm, hm10, hnl, ht, hv, hx, h64⟩ := Var.scan_done _ 0 0 v m (by omega) (by simp) hr
      have e1 : m = n := by omega
      subst e1
      have e2 : v = x := by simpa using hv
      subst e2
      have hle : m ≤ s.size - A := by rw [List.length_drop] at hnl; simpa using hnl
      refine .inr ⟨A, m, v, rfl, by have := h.2; omega, by omega, rfl, ?_⟩
      rw [padS_in ⟨by have := Var.varLen_le hn hx; omega, by omega⟩, Int.toNat_natCast, ← ht]
      apply ByteArray.ext
      apply Array.ext'
      rw [ByteArray.data_extract, Array.toList_extract]
      simp
  · rw [if_neg h]
    exact .inl ⟨0, 1, .inl rfl, rfl⟩
end Go.Proofs.Ytdnpambdonhliaa.Num
