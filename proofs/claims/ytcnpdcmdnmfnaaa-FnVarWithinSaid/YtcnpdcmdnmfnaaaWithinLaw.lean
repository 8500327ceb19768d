/-
  What a varint read up to a place has to do with one read at once. Plain.
-/
import Derived.Test.YtcnpdcmdnmfnaaaWithin
namespace Go.Proofs.Ytcnpdcmdnmfnaaa.Num
open Go.RowKit Go.Proofs
theorem scan_ge : ∀ (l : List UInt8) (k u : Nat), match Var.scan k u l with | .more => True | .done _ m => k < m | .over j => k ≤ j
  | [], k, u => by simp [Var.scan]
  | c :: r, k, u => by
    have e : Var.scan k u (c :: r) = if k = 9 ∧ 1 < c.toNat then .over k else if c.toNat < 128 then .done (u + c.toNat % 128 * 2 ^ (7 * k)) (k + 1) else Var.scan (k + 1) (u + c.toNat % 128 * 2 ^ (7 * k)) r := by rw [Var.scan]
    by_cases h9 : k = 9 ∧ 1 < c.toNat
    · rw [e, if_pos h9]; exact Nat.le_refl k
    · by_cases hc : c.toNat < 128
      · rw [e, if_neg h9, if_pos hc]; exact Nat.lt_succ_self k
      · rw [e, if_neg h9, if_neg hc]
        have h := scan_ge r (k + 1) (u + c.toNat % 128 * 2 ^ (7 * k))
        generalize Var.scan (k + 1) (u + c.toNat % 128 * 2 ^ (7 * k)) r = q at h ⊢
        cases q <;> simp only at h ⊢ <;> omega
theorem scan_take : ∀ (l : List UInt8) (n k u : Nat), Var.scan k u (l.take n) = match Var.scan k u l with | .more => .more | .done v m => if m ≤ k + n then .done v m else .more | .over j => if j < k + n then .over j else .more
  | [], n, k, u => by simp [Var.scan]
  | c :: r, 0, k, u => by
    have h := scan_ge (c :: r) k u
    generalize Var.scan k u (c :: r) = q at h ⊢
    rw [List.take_zero]
    cases q with
    | more => rfl
    | done v m => simp only at h ⊢; rw [if_neg (by omega)]; rfl
    | over j => simp only at h ⊢; rw [if_neg (by omega)]; rfl
  | c :: r, n + 1, k, u => by
    rw [List.take_succ_cons]
    have ih := scan_take r n (k + 1) (u + c.toNat % 128 * 2 ^ (7 * k))
    simp only [Var.scan]
    split
    · next h => simp only; rw [if_pos (by omega)]
    · split
      · simp only; rw [if_pos (by omega)]
      · rw [ih, show k + 1 + n = k + (n + 1) by omega]
/-- What the law asks of the two answers. -/
theorem within_law {s : ByteArray} {A : Nat} {E v p b x f t : Int} (hA : A ≤ s.size) (hw : withinR s A E = (v, p, b)) (hg : getR s A = (x, f, t)) :
    (t = 0 ∧ f ≤ E → b = 0 ∧ v = x ∧ p = f) ∧ (t = 0 ∧ ¬ f ≤ E → b = 9 ∧ p = E) ∧ (t = 1 ∧ E ≤ s.size → b = 9 ∧ p = E) ∧ (t ≠ 0 → b ≠ 0) ∧ (t = 0 ∨ t = 1 ∨ t = 2) ∧ f ≤ s.size + 9 ∧ 0 ≤ f := by
  rw [within_in hA, scan_take] at hw
  have hgr : getR s A = resV s A (Var.scan 0 0 (s.data.toList.drop A)) := by unfold getR; rw [if_pos ⟨by omega, by omega⟩, Int.toNat_natCast]
  rw [hgr] at hg
  have hlen : (s.data.toList.drop A).length = s.size - A := by simp
  have hd := fun v m => Var.scan_done (s.data.toList.drop A) 0 0 v m (by omega) (by omega)
  have ho := fun m => Var.scan_over (s.data.toList.drop A) 0 0 m
  generalize hq : Var.scan 0 0 (s.data.toList.drop A) = q at hw hg hd ho
  cases q with
  | more =>
    simp only [withinRes, resV] at hw hg
    injection hg with g1 g2
    injection g2 with g2 g3
    subst g1 g2 g3
    by_cases hE : E ≤ s.size
    · rw [if_pos hE] at hw
      injection hw with w1 w2
      injection w2 with w2 w3
      omega
    · rw [if_neg hE] at hw
      injection hw with w1 w2
      injection w2 with w2 w3
      omega
  | done y m =>
    obtain ⟨n', x', h1, h2, h3, h4, _⟩ := hd y m rfl
    simp only [withinRes, resV] at hw hg
    injection hg with g1 g2
    injection g2 with g2 g3
    subst g1 g2 g3
    by_cases hm : m ≤ 0 + (E - A).toNat
    · rw [if_pos hm] at hw
      simp only at hw
      injection hw with w1 w2
      injection w2 with w2 w3
      omega
    · rw [if_neg hm] at hw
      simp only at hw
      rw [if_pos (by omega)] at hw
      injection hw with w1 w2
      injection w2 with w2 w3
      omega
  | over j =>
    have hj := ho j rfl
    simp only [withinRes, resV] at hw hg
    injection hg with g1 g2
    injection g2 with g2 g3
    subst g1 g2 g3
    by_cases hm : j < 0 + (E - A).toNat
    · rw [if_pos hm] at hw
      simp only at hw
      injection hw with w1 w2
      injection w2 with w2 w3
      omega
    · rw [if_neg hm] at hw
      simp only at hw
      split at hw
      · injection hw with w1 w2
        injection w2 with w2 w3
        omega
      · injection hw with w1 w2
        injection w2 with w2 w3
        omega
end Go.Proofs.Ytcnpdcmdnmfnaaa.Num
