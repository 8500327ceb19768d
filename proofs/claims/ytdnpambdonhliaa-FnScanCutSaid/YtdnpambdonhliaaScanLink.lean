/-
  Plain lemmas: reading byte by byte and reading at once find the same; reading in two pieces, too.
-/
import Derived.Test.YtdnpambdonhliaaScanText
import Derived.Test.YtdnpambdonhliaaVarLaw
namespace Go.Proofs.Ytdnpambdonhliaa.Num
open Go.RowKit Go.Proofs
set_option linter.unusedVariables false

theorem scanOk_nat {b k : Nat} (hk : k ≤ 9) (hb : b < 2 ^ (7 * k)) : scanOkB b (k : Int) = true := by
  unfold scanOkB; rw [Bool.and_eq_true, decide_eq_true_iff, decide_eq_true_iff]; exact ⟨by omega, by rw [Int.toNat_natCast]; exact hb⟩
theorem byteR_over {b : Nat} {c : UInt8} (hb : b < 2 ^ (7 * 9)) (hc : 1 < c.toNat) : scanByteR b ((9 : Nat) : Int) (c.toNat : Int) = (b, ((9 : Nat) : Int), 2) := by
  unfold scanByteR; rw [if_neg]; intro h; exact h.2.2 ⟨rfl, by omega⟩
theorem byteR_ok {b k : Nat} {c : UInt8} (hk : k ≤ 9) (hb : b < 2 ^ (7 * k)) (hc : ¬ (k = 9 ∧ 1 < c.toNat)) : scanByteR b (k : Int) (c.toNat : Int) = (b + c.toNat % 128 * 2 ^ (7 * k), ((k + 1 : Nat) : Int), if c.toNat < 128 then 1 else 0) := by
  have h8 := c.toNat_lt
  unfold scanByteR
  rw [if_pos ⟨scanOk_nat hk hb, by omega, by omega⟩, Int.toNat_natCast, Int.toNat_natCast]
  by_cases h : c.toNat < 128
  · rw [if_pos h, if_pos (by omega)]; rfl
  · rw [if_neg h, if_neg (by omega)]; rfl
/-- What is found at once, byte by byte. -/
def Linked (b k : Nat) (l : List UInt8) : Var.Res → Prop
  | .more => ∃ V, scanTextR b (k : Int) l = (V, ((k + l.length : Nat) : Int), l.length, 0) ∧ k + l.length ≤ 9 ∧ V < 2 ^ (7 * (k + l.length))
  | .over _ => ∃ V, scanTextR b (k : Int) l = (V, 9, 10 - k, 2)
  | .done v m => scanTextR b (k : Int) l = (v, (m : Int), m - k, 1) ∧ k < m
theorem pow_le9' (k : Nat) (hk : k ≤ 9) : 2 ^ (7 * k) ≤ 9223372036854775808 := Nat.le_trans (Nat.pow_le_pow_right (by omega) (show 7 * k ≤ 63 by omega)) (by decide)
theorem linked : ∀ (l : List UInt8) (b k : Nat), k ≤ 9 → b < 2 ^ (7 * k) → Linked b k l (Var.scan k b l)
  | [], b, k, hk, hb => ⟨b, by rw [scanText_nil]; simp, by simpa using hk, by simpa using hb⟩
  | c :: r, b, k, hk, hb => by
    have hc := c.toNat_lt
    simp only [Var.scan]
    by_cases h9 : k = 9 ∧ 1 < c.toNat
    · rw [if_pos h9]
      obtain ⟨rfl, h1⟩ := h9
      exact ⟨b, by rw [scanText_stop (byteR_over hb h1) (by decide)]; rfl⟩
    · rw [if_neg h9]
      by_cases hlt : c.toNat < 128
      · rw [if_pos hlt]
        have h := byteR_ok hk hb h9
        rw [if_pos hlt] at h
        exact ⟨by rw [scanText_stop h (by decide)]; simp, by omega⟩
      · rw [if_neg hlt]
        have h := byteR_ok hk hb h9
        rw [if_neg hlt] at h
        have hk8 : k + 1 ≤ 9 := by omega
        have ih := linked r (b + c.toNat % 128 * 2 ^ (7 * k)) (k + 1) hk8 (step_lt hb)
        cases hr : Var.scan (k + 1) (b + c.toNat % 128 * 2 ^ (7 * k)) r with
        | more =>
          rw [hr] at ih
          obtain ⟨V, h1, h2, h3⟩ := ih
          have e : k + (c :: r).length = k + 1 + r.length := by simp; omega
          refine ⟨V, ?_, by rw [e]; exact h2, by rw [e]; exact h3⟩
          rw [scanText_more h, h1, e]; simp [laterR]
        | over m =>
          rw [hr] at ih
          obtain ⟨V, h1⟩ := ih
          exact ⟨V, by rw [scanText_more h, h1]; simp only [laterR]; congr 3; omega⟩
        | done v m =>
          rw [hr] at ih
          obtain ⟨h1, h2⟩ := ih
          exact ⟨by rw [scanText_more h, h1]; simp only [laterR]; congr 3; omega, by omega⟩
theorem scanText_append : ∀ (l1 : List UInt8) (l2 : List UInt8) (b : Nat) (h : Int) (V : Nat) (H : Int) (n : Nat), scanTextR b h l1 = (V, H, n, 0) → scanTextR b h (l1 ++ l2) = laterR l1.length (scanTextR V H l2)
  | [], l2, b, h, V, H, n, he => by
    rw [scanText_nil] at he
    injection he with h1 h2
    injection h2 with h2 h3
    subst h1; subst h2
    rfl
  | c :: r, l2, b, h, V, H, n, he => by
    by_cases hC : (scanByteR b h c.toNat).2.2 = 0
    · have hs : scanByteR b h c.toNat = ((scanByteR b h c.toNat).1, (scanByteR b h c.toNat).2.1, 0) := by rw [← hC]
      rw [scanText_more hs] at he
      have he2 : scanTextR (scanByteR b h c.toNat).1 (scanByteR b h c.toNat).2.1 r = (V, H, n - 1, 0) := by
        generalize scanTextR (scanByteR b h c.toNat).1 (scanByteR b h c.toNat).2.1 r = R at he
        obtain ⟨a, b', c', d⟩ := R
        unfold laterR at he
        simp only [Prod.mk.injEq] at he ⊢
        omega
      rw [List.cons_append, scanText_more hs, scanText_append r l2 _ _ V H (n - 1) he2, later_later]
      simp
    · have hs : scanByteR b h c.toNat = ((scanByteR b h c.toNat).1, (scanByteR b h c.toNat).2.1, (scanByteR b h c.toNat).2.2) := rfl
      rw [scanText_stop hs hC] at he
      simp only [Prod.mk.injEq] at he
      exact absurd he.2.2.2 hC
theorem scanText_bound : ∀ (l : List UInt8) (b : Nat) (h : Int), b ≤ 18446744073709551615 → (scanTextR b h l).1 ≤ 18446744073709551615
  | [], b, h, hb => hb
  | c :: r, b, h, hb => by
    have h1 := scanByteR_bound (h := h) (x := c.toNat) hb
    simp only [scanTextR]
    split
    · exact scanText_bound r _ _ h1
    · exact h1
theorem scanText_len : ∀ (l : List UInt8) (b : Nat) (h : Int), (scanTextR b h l).2.2.1 ≤ l.length
  | [], b, h => Nat.le_refl _
  | c :: r, b, h => by
    simp only [scanTextR, List.length_cons]
    split
    · exact Nat.succ_le_succ (scanText_len r _ _)
    · simp
/-- The whole of a varint, byte by byte. -/
theorem scanText_put (u : Nat) (hu : u ≤ 18446744073709551615) : scanTextR 0 ((0 : Nat) : Int) (Var.put u) = (u, (Var.varLen u : Int), Var.varLen u, 1) := by
  have h1 := Var.scan_enc (Var.varLen u) u 0 0 [] (Var.varLen_pos u) (by have := Var.varLen_64 hu; omega) (Var.lt_pow_varLen u) (by omega)
  have h2 := linked (Var.put u) 0 0 (by omega) (by decide)
  rw [List.append_nil] at h1
  rw [show Var.put u = Var.enc (Var.varLen u) u from rfl, h1] at h2
  have h3 := h2.1
  show scanTextR 0 ((0 : Nat) : Int) (Var.enc (Var.varLen u) u) = _
  simpa using h3
/-- A piece of it, and the rest. -/
theorem scanText_cut (u k : Nat) (hu : u ≤ 18446744073709551615) (hk : k < Var.varLen u) : ∃ V : Nat, V ≤ 18446744073709551615 ∧ scanTextR 0 ((0 : Nat) : Int) ((Var.put u).take k) = (V, (k : Int), k, 0) ∧ scanTextR V (k : Int) ((Var.put u).drop k) = (u, (Var.varLen u : Int), Var.varLen u - k, 1) := by
  have h10 := Var.varLen_64 hu
  have h1 := scan_cut (Var.varLen u) u 0 0 k (by omega) hk
  have hl : ((Var.put u).take k).length = k := by rw [List.length_take, Var.put_length]; omega
  have h2 := linked ((Var.put u).take k) 0 0 (by omega) (by decide)
  rw [show Var.scan 0 0 ((Var.put u).take k) = .more from h1] at h2
  obtain ⟨V, h3, h4, h5⟩ := h2
  rw [hl, Nat.zero_add] at h3 h4 h5
  have hp := pow_le9' k h4
  refine ⟨V, by omega, h3, ?_⟩
  have h6 := scanText_append _ ((Var.put u).drop k) 0 ((0 : Nat) : Int) V (k : Int) k h3
  rw [List.take_append_drop, scanText_put u hu, hl] at h6
  generalize scanTextR V (k : Int) ((Var.put u).drop k) = R at h6
  obtain ⟨a, b, c, d⟩ := R
  unfold laterR at h6
  simp only [Prod.mk.injEq] at h6 ⊢
  omega
end Go.Proofs.Ytdnpambdonhliaa.Num
