/-
  Plain lemmas on base-128 varints as lists of bytes: padded encodings, what a reader finds, that the two are one.
-/
import Derived.Lib.Hide
namespace Go.Proofs.Ytpkofbdfnbpfpaa.Var

def by' (n : Nat) : UInt8 := UInt8.ofNat n
theorem by_toNat {n : Nat} (h : n < 256) : (by' n).toNat = n := by unfold by'; simp [UInt8.toNat_ofNat']; omega
/-- u in exactly n bytes (n at least 1). -/
def enc : Nat → Nat → List UInt8
  | 0, _ => []
  | 1, u => [by' (u % 128)]
  | n + 2, u => by' (u % 128 + 128) :: enc (n + 1) (u / 128)
theorem enc_length : ∀ n u, (enc n u).length = n
  | 0, _ => rfl
  | 1, _ => rfl
  | n + 2, u => by simp only [enc, List.length_cons]; rw [enc_length (n + 1) (u / 128)]
/-- How many bytes the shortest encoding has. -/
def lenF : Nat → Nat → Nat
  | 0, _ => 1
  | f + 1, u => if u ≤ 127 then 1 else lenF f (u / 128) + 1
def varLen (u : Nat) : Nat := lenF u u
theorem lenF_eq : ∀ f g u, u ≤ f → u ≤ g → lenF f u = lenF g u
  | 0, 0, _, _, _ => rfl
  | 0, g + 1, u, h, _ => by
    have : u = 0 := by omega
    subst this; rfl
  | f + 1, 0, u, _, h => by
    have : u = 0 := by omega
    subst this; rfl
  | f + 1, g + 1, u, h1, h2 => by
    simp only [lenF]
    split
    · rfl
    · rw [lenF_eq f g (u / 128) (by omega) (by omega)]
theorem varLen_small {u : Nat} (h : u ≤ 127) : varLen u = 1 := by
  unfold varLen
  cases u with
  | zero => rfl
  | succ n => simp only [lenF]; rw [if_pos h]
theorem varLen_big {u : Nat} (h : 127 < u) : varLen u = varLen (u / 128) + 1 := by
  unfold varLen
  cases u with
  | zero => omega
  | succ n => simp only [lenF]; rw [if_neg (by omega), lenF_eq n ((n + 1) / 128) _ (by omega) (Nat.le_refl _)]
theorem varLen_induct {P : Nat → Prop} (hs : ∀ u, u ≤ 127 → P u) (hb : ∀ u, 127 < u → P (u / 128) → P u) (u : Nat) : P u := by
  induction u using Nat.strongRecOn with
  | ind u ih =>
    by_cases h : u ≤ 127
    · exact hs u h
    · exact hb u (by omega) (ih (u / 128) (by omega))
theorem varLen_pos (u : Nat) : 1 ≤ varLen u := by
  induction u using varLen_induct with
  | hs u h => rw [varLen_small h]; exact Nat.le_refl 1
  | hb u h ih => rw [varLen_big h]; omega
theorem lt_pow_varLen (u : Nat) : u < 128 ^ varLen u := by
  induction u using varLen_induct with
  | hs u h => rw [varLen_small h]; omega
  | hb u h ih => rw [varLen_big h, Nat.pow_succ]; omega
theorem varLen_le {u n : Nat} (hn : 1 ≤ n) (h : u < 128 ^ n) : varLen u ≤ n := by
  induction n generalizing u with
  | zero => omega
  | succ n ih =>
    by_cases hu : u ≤ 127
    · rw [varLen_small hu]; omega
    · rw [varLen_big (by omega)]
      cases n with
      | zero => simp at h; omega
      | succ m =>
        have : u / 128 < 128 ^ (m + 1) := by rw [Nat.pow_succ] at h; omega
        have := ih (by omega) this
        omega
theorem varLen_64 {u : Nat} (h : u ≤ 18446744073709551615) : varLen u ≤ 10 := varLen_le (by omega) (by omega)
/-- The shortest encoding. -/
def put (u : Nat) : List UInt8 := enc (varLen u) u
theorem put_small {u : Nat} (h : u ≤ 127) : put u = [by' u] := by unfold put; rw [varLen_small h]; simp only [enc]; rw [Nat.mod_eq_of_lt (by omega)]
theorem put_big {u : Nat} (h : 127 < u) : put u = by' (u % 128 + 128) :: put (u / 128) := by
  unfold put
  rw [varLen_big h]
  have := varLen_pos (u / 128)
  obtain ⟨m, hm⟩ : ∃ m, varLen (u / 128) = m + 1 := ⟨varLen (u / 128) - 1, by omega⟩
  rw [hm]
  rfl
theorem put_length (u : Nat) : (put u).length = varLen u := enc_length _ _
/-- One byte more: the last byte gets the high bit, a byte 0 follows. -/
theorem enc_last : ∀ n u, 1 ≤ n → ∃ i l, enc n u = i ++ [l] ∧ l.toNat < 128 ∧ i.length + 1 = n
  | 0, _, h => by omega
  | 1, u, _ => ⟨[], by' (u % 128), rfl, by rw [by_toNat (by omega)]; omega, rfl⟩
  | n + 2, u, _ => by
    obtain ⟨i, l, e, hl, hi⟩ := enc_last (n + 1) (u / 128) (by omega)
    exact ⟨by' (u % 128 + 128) :: i, l, by simp only [enc]; rw [e]; rfl, hl, by simp only [List.length_cons]; omega⟩
theorem enc_more : ∀ n u i l, enc (n + 1) u = i ++ [l] → u < 128 ^ (n + 1) → enc (n + 2) u = i ++ [by' (l.toNat + 128), by' 0]
  | 0, u, i, l, e, h => by
    have h' : u < 128 := by simpa using h
    simp only [enc] at e
    have hi : i = [] := by
      cases i with
      | nil => rfl
      | cons a t => simp at e
    subst hi
    simp only [List.nil_append, List.cons.injEq, and_true] at e
    subst e
    simp only [enc, List.nil_append]
    rw [by_toNat (by omega), show u / 128 % 128 = 0 by omega]
  | n + 1, u, i, l, e, h => by
    rw [show enc (n + 1 + 1) u = by' (u % 128 + 128) :: enc (n + 1) (u / 128) from rfl] at e
    cases i with
    | nil =>
      have := congrArg List.length e
      simp [enc_length] at this
    | cons a t =>
      simp only [List.cons_append, List.cons.injEq] at e
      obtain ⟨rfl, e⟩ := e
      have hd : u / 128 < 128 ^ (n + 1) := by rw [Nat.pow_succ] at h; omega
      have ih := enc_more n (u / 128) t l e hd
      rw [show enc (n + 1 + 2) u = by' (u % 128 + 128) :: enc (n + 2) (u / 128) from rfl, ih]
      rfl

/-- What a reader finds. -/
inductive Res where
  | more : Res
  | over : Nat → Res
  | done : Nat → Nat → Res
/-- Reading on at place k with the value u so far. -/
def scan (k u : Nat) : List UInt8 → Res
  | [] => .more
  | c :: r => if k = 9 ∧ 1 < c.toNat then .over k else if c.toNat < 128 then .done (u + c.toNat % 128 * 2 ^ (7 * k)) (k + 1) else scan (k + 1) (u + c.toNat % 128 * 2 ^ (7 * k)) r
theorem scan_enc : ∀ n v k u r, 1 ≤ n → k + n ≤ 10 → v < 128 ^ n → v * 2 ^ (7 * k) < 18446744073709551616 → scan k u (enc n v ++ r) = .done (u + v * 2 ^ (7 * k)) (k + n)
  | 0, _, _, _, _, h, _, _, _ => by omega
  | 1, v, k, u, r, _, hk, hv, hb => by
    have hv' : v < 128 := by simpa using hv
    simp only [enc, List.singleton_append, scan]
    rw [by_toNat (by omega), Nat.mod_eq_of_lt hv', Nat.mod_eq_of_lt hv', if_pos hv', if_neg]
    rintro ⟨rfl, h1⟩
    simp only [Nat.reduceMul, Nat.reducePow] at hb
    omega
  | n + 2, v, k, u, r, _, hk, hv, hb => by
    have hd : v / 128 < 128 ^ (n + 1) := by rw [Nat.pow_succ] at hv; omega
    have hp : 2 ^ (7 * (k + 1)) = 128 * 2 ^ (7 * k) := by rw [Nat.mul_succ, Nat.pow_add]; omega
    have hb2 : v / 128 * 2 ^ (7 * (k + 1)) < 18446744073709551616 := by
      rw [hp, ← Nat.mul_assoc]
      exact Nat.lt_of_le_of_lt (Nat.mul_le_mul_right _ (Nat.div_mul_le_self v 128)) hb
    rw [show enc (n + 2) v = by' (v % 128 + 128) :: enc (n + 1) (v / 128) from rfl, List.cons_append]
    simp only [scan]
    rw [by_toNat (by omega), if_neg (by omega), if_neg (by omega), scan_enc (n + 1) (v / 128) (k + 1) _ r (by omega) (by omega) hd hb2, hp]
    have e : u + (v % 128 + 128) % 128 * 2 ^ (7 * k) + v / 128 * (128 * 2 ^ (7 * k)) = u + v * 2 ^ (7 * k) := by
      rw [show (v % 128 + 128) % 128 = v % 128 by omega, ← Nat.mul_assoc, Nat.add_assoc, ← Nat.add_mul]
      congr 2
      omega
    rw [e]
    congr 1
    omega
/-- What was read is an encoding of the value. -/
theorem scan_done : ∀ (r : List UInt8) (k u v m : Nat), k ≤ 9 → u < 2 ^ (7 * k) → scan k u r = .done v m → ∃ n x, 1 ≤ n ∧ m = k + n ∧ m ≤ 10 ∧ n ≤ r.length ∧ r.take n = enc n x ∧ v = u + x * 2 ^ (7 * k) ∧ x < 128 ^ n ∧ v < 18446744073709551616
  | [], _, _, _, _, _, _, h => by simp [scan] at h
  | c :: r, k, u, v, m, hk, hu, h => by
    have hc : c.toNat < 256 := c.toNat_lt
    have hp : 2 ^ (7 * (k + 1)) = 128 * 2 ^ (7 * k) := by rw [Nat.mul_succ, Nat.pow_add]; omega
    have hpos : 0 < 2 ^ (7 * k) := Nat.two_pow_pos _
    simp only [scan] at h
    split at h
    · cases h
    · rename_i h9
      split at h
      · rename_i hlt
        injection h with h1 h2
        subst h1; subst h2
        have hm : c.toNat % 128 = c.toNat := Nat.mod_eq_of_lt hlt
        have h64 : u + c.toNat % 128 * 2 ^ (7 * k) < 18446744073709551616 := by
          rw [hm]
          by_cases hk9 : k = 9
          · subst hk9
            have : c.toNat ≤ 1 := by omega
            simp only [Nat.reduceMul, Nat.reducePow] at hu ⊢
            omega
          · have h1 : 2 ^ (7 * (k + 1)) ≤ 2 ^ 63 := Nat.pow_le_pow_right (by omega) (by omega)
            have h2 : c.toNat * 2 ^ (7 * k) ≤ 127 * 2 ^ (7 * k) := Nat.mul_le_mul_right _ (by omega)
            rw [hp] at h1
            omega
        refine ⟨1, c.toNat, Nat.le_refl 1, rfl, by omega, by simp, ?_, by rw [hm], by simpa using hlt, h64⟩
        simp only [List.take_succ_cons, List.take_zero, enc, hm]
        congr 1
        unfold by'; simp
      · rename_i hge
        have hk8 : k ≠ 9 := fun e => by
          have := not_and.1 h9 e
          omega
        have hu2 : u + c.toNat % 128 * 2 ^ (7 * k) < 2 ^ (7 * (k + 1)) := by
          have h2 : c.toNat % 128 * 2 ^ (7 * k) ≤ 127 * 2 ^ (7 * k) := Nat.mul_le_mul_right _ (by omega)
          rw [hp]; omega
        obtain ⟨n, x, hn, hm, hm10, hnl, ht, hv, hx, h64⟩ := scan_done r (k + 1) _ v m (by omega) hu2 h
        refine ⟨n + 1, c.toNat % 128 + 128 * x, by omega, by omega, hm10, by simp; omega, ?_, ?_, ?_, h64⟩
        · obtain ⟨q, rfl⟩ : ∃ q, n = q + 1 := ⟨n - 1, by omega⟩
          rw [List.take_succ_cons, ht]
          rw [show enc (q + 1 + 1) (c.toNat % 128 + 128 * x) = by' ((c.toNat % 128 + 128 * x) % 128 + 128) :: enc (q + 1) ((c.toNat % 128 + 128 * x) / 128) from rfl]
          rw [show (c.toNat % 128 + 128 * x) / 128 = x by omega, show (c.toNat % 128 + 128 * x) % 128 + 128 = c.toNat by omega]
          congr 1
          unfold by'; simp
        · rw [hv, hp, Nat.add_mul, ← Nat.mul_assoc, Nat.mul_comm x 128, Nat.add_assoc]
        · rw [Nat.pow_succ]; omega
theorem scan_over : ∀ (r : List UInt8) (k u m : Nat), scan k u r = .over m → m = 9
  | [], _, _, _, h => by simp [scan] at h
  | c :: r, k, u, m, h => by
    simp only [scan] at h
    split at h
    · rename_i h9; injection h with h; omega
    · split at h
      · cases h
      · exact scan_over r (k + 1) _ m h
end Go.Proofs.Ytpkofbdfnbpfpaa.Var
