/-
  Plain lemmas on decimal numerals as lists of bytes: a numeral without a leading zero is the numeral of its value, and the numeral of a value has that value. No program is named here.
-/
import Derived.Lib.Hide
namespace Go.Proofs.Yteplmjlllnbiiaa.Num

theorem snoc_induct {P : List UInt8 → Prop} (h0 : P []) (h1 : ∀ l c, P l → P (l ++ [c])) (l : List UInt8) : P l := by
  have h : ∀ r : List UInt8, P r.reverse := by
    intro r
    induction r with
    | nil => exact h0
    | cons c r ih => rw [List.reverse_cons]; exact h1 _ _ ih
  have := h l.reverse
  rwa [List.reverse_reverse] at this
def isDig (c : UInt8) : Bool := decide (48 ≤ c.toNat ∧ c.toNat ≤ 57)
def val (l : List UInt8) : Nat := l.foldl (fun a c => 10 * a + (c.toNat - 48)) 0
/-- No leading zero, but for the numeral 0 itself; not empty; digits alone. -/
def canon (l : List UInt8) : Bool := !l.isEmpty && (decide (l.length = 1) || decide (l.head? ≠ some 48)) && l.all isDig
def numOk (M : Nat) (l : List UInt8) : Bool := canon l && decide (val l ≤ M)
/-- So far so good behind some digits of a numeral: digits alone, and the limit is kept. -/
def pref (M : Nat) (l : List UInt8) : Bool := l.all isDig && decide (val l ≤ M)

theorem val_nil : val [] = 0 := rfl
theorem val_snoc (l : List UInt8) (c : UInt8) : val (l ++ [c]) = 10 * val l + (c.toNat - 48) := by
  simp [val]
theorem val_app (l r : List UInt8) : val l * 10 ^ r.length ≤ val (l ++ r) := by
  induction r using snoc_induct with
  | h0 => simp
  | h1 r c ih =>
    rw [← List.append_assoc, val_snoc, List.length_append, List.length_singleton, Nat.pow_succ]
    have : val l * (10 ^ r.length * 10) = 10 * (val l * 10 ^ r.length) := by rw [Nat.mul_comm (10 ^ r.length) 10, ← Nat.mul_assoc, Nat.mul_comm (val l) 10, Nat.mul_assoc]
    omega
theorem val_mono (l r : List UInt8) : val l ≤ val (l ++ r) := by
  have h := val_app l r
  have h1 : 1 ≤ 10 ^ r.length := Nat.one_le_pow _ _ (by omega)
  exact Nat.le_trans (Nat.le_mul_of_pos_right _ (by omega)) h

theorem pref_nil (M : Nat) : pref M [] = true := by simp [pref, val]
theorem pref_snoc (M : Nat) (l : List UInt8) (c : UInt8) : pref M (l ++ [c]) = true ↔ l.all isDig = true ∧ isDig c = true ∧ 10 * val l + (c.toNat - 48) ≤ M := by
  simp [pref, val_snoc, List.all_append]
  constructor
  · rintro ⟨⟨a, b⟩, c⟩; exact ⟨a, b, c⟩
  · rintro ⟨a, b, c⟩; exact ⟨⟨a, b⟩, c⟩
theorem pref_of_app {M : Nat} {l r : List UInt8} (h : pref M (l ++ r) = true) : pref M l = true := by
  simp only [pref, Bool.and_eq_true, List.all_append, decide_eq_true_eq] at h ⊢
  exact ⟨h.1.1, Nat.le_trans (val_mono l r) h.2⟩
/-- A bad beginning makes a bad numeral. -/
theorem pref_take {M : Nat} {l : List UInt8} (k : Nat) (h : pref M (l.take k) = false) : pref M l = false := by
  cases hp : pref M l with
  | false => rfl
  | true => rw [← List.take_append_drop k l] at hp; rw [pref_of_app hp] at h; cases h

def dgt (d : Nat) : UInt8 := UInt8.ofNat (48 + d)
def decF : Nat → Nat → List UInt8
  | 0, u => [dgt (u % 10)]
  | f + 1, u => if u ≤ 9 then [dgt u] else decF f (u / 10) ++ [dgt (u % 10)]
/-- The shortest decimal numeral of a number. -/
def dec (u : Nat) : List UInt8 := decF u u

theorem decF_eq : ∀ f g u, u ≤ f → u ≤ g → decF f u = decF g u
  | 0, 0, _, _, _ => rfl
  | 0, g + 1, u, h, _ => by have : u = 0 := by omega
                            subst this; rfl
  | f + 1, 0, u, _, h => by have : u = 0 := by omega
                            subst this; rfl
  | f + 1, g + 1, u, h1, h2 => by
    simp only [decF]
    split
    · rfl
    · rw [decF_eq f g (u / 10) (by omega) (by omega)]
theorem dec_small {u : Nat} (h : u ≤ 9) : dec u = [dgt u] := by
  unfold dec
  cases u with
  | zero => rfl
  | succ n => simp only [decF]; rw [if_pos h]
theorem dec_big {u : Nat} (h : 9 < u) : dec u = dec (u / 10) ++ [dgt (u % 10)] := by
  unfold dec
  cases u with
  | zero => omega
  | succ n => simp only [decF]; rw [if_neg (by omega), decF_eq n ((n + 1) / 10) _ (by omega) (Nat.le_refl _)]
theorem ofNat_toNat {n : Nat} (h : n < 256) : (UInt8.ofNat n).toNat = n := by simp [UInt8.toNat_ofNat']; omega
theorem dig_toNat (d : Nat) (h : d ≤ 9) : (dgt d).toNat = 48 + d := ofNat_toNat (by omega)
theorem isDig_of (d : Nat) (h : d ≤ 9) : isDig (dgt d) = true := by
  unfold isDig; rw [dig_toNat d h]; simp; omega
theorem dig_back {c : UInt8} (h : isDig c = true) : dgt (c.toNat - 48) = c := by
  unfold isDig at h; simp at h
  apply UInt8.toNat.inj
  rw [dig_toNat _ (by omega)]; omega
theorem dec_induct {P : Nat → Prop} (hs : ∀ u, u ≤ 9 → P u) (hb : ∀ u, 9 < u → P (u / 10) → P u) (u : Nat) : P u := by
  induction u using Nat.strongRecOn with
  | ind u ih =>
    by_cases h : u ≤ 9
    · exact hs u h
    · exact hb u (by omega) (ih (u / 10) (by omega))
theorem val_dec (u : Nat) : val (dec u) = u := by
  induction u using dec_induct with
  | hs u h => rw [dec_small h]; simp [val]; rw [dig_toNat u h]; omega
  | hb u h ih => rw [dec_big h, val_snoc, ih, dig_toNat _ (by omega)]; omega
theorem dec_ne (u : Nat) : dec u ≠ [] := by
  by_cases h : u ≤ 9
  · rw [dec_small h]; simp
  · rw [dec_big (by omega)]; simp
theorem dec_all (u : Nat) : (dec u).all isDig = true := by
  induction u using dec_induct with
  | hs u h => rw [dec_small h]; simp [isDig_of u h]
  | hb u h ih => rw [dec_big h]; simp only [List.all_append, ih]; simp [isDig_of (u % 10) (by omega)]
theorem dec_head (u : Nat) (h : 1 ≤ u) : (dec u).head? ≠ some 48 := by
  induction u using dec_induct with
  | hs u hu => rw [dec_small hu]; simp; intro e; have := congrArg UInt8.toNat e; rw [dig_toNat u hu] at this; simp at this; omega
  | hb u hu ih =>
    rw [dec_big hu, List.head?_append]
    cases hd : dec (u / 10) with
    | nil => exact absurd hd (dec_ne _)
    | cons a t => have := ih (by omega); rw [hd] at this; simpa using this
theorem canon_dec (u : Nat) : canon (dec u) = true := by
  unfold canon
  rw [dec_all]
  have h1 := dec_ne u
  by_cases h : u ≤ 9
  · rw [dec_small h]; simp
  · have h2 := dec_head u (by omega)
    simp [h1, h2]
theorem head_pos {c : UInt8} {l : List UInt8} (hd : isDig c = true) (hc : c ≠ 48) : 1 ≤ val (c :: l) := by
  have h := val_mono [c] l
  simp only [val, List.foldl_cons, List.foldl_nil, List.singleton_append] at h
  unfold isDig at hd; simp at hd
  have h3 : c.toNat ≠ 48 := fun e => hc (by apply UInt8.toNat.inj; rw [e]; rfl)
  have h2 : 1 ≤ 10 * 0 + (c.toNat - 48) := by omega
  exact Nat.le_trans h2 h
theorem dec_val (l : List UInt8) (h : canon l = true) : dec (val l) = l := by
  induction l using snoc_induct with
  | h0 => simp [canon] at h
  | h1 l c ih =>
    unfold canon at h
    simp only [Bool.and_eq_true, List.all_append, List.all_cons, List.all_nil, Bool.and_true] at h
    obtain ⟨⟨_, hh⟩, hl, hc⟩ := h
    have hcd := hc
    unfold isDig at hcd; simp at hcd
    rw [val_snoc]
    cases l with
    | nil => simp only [val_nil]; rw [dec_small (by omega)]; simp [dig_back hc]
    | cons a t =>
      simp at hh
      simp only [List.all_cons, Bool.and_eq_true] at hl
      have hp := head_pos (l := t) hl.1 hh
      have hcan : canon (a :: t) = true := by unfold canon; simp [hl.1, hh]; simpa using hl.2
      rw [dec_big (by omega), show (10 * val (a :: t) + (c.toNat - 48)) / 10 = val (a :: t) from by omega, show (10 * val (a :: t) + (c.toNat - 48)) % 10 = c.toNat - 48 from by omega, ih hcan, dig_back hc]
theorem canon_length {l : List UInt8} (h : canon l = true) : l.length = 1 ∨ 10 ^ (l.length - 1) ≤ val l := by
  unfold canon at h
  simp only [Bool.and_eq_true] at h
  obtain ⟨⟨hne, hh⟩, ha⟩ := h
  cases l with
  | nil => simp at hne
  | cons a t =>
    cases t with
    | nil => left; rfl
    | cons b r =>
      right
      simp at hh
      simp only [List.all_cons, Bool.and_eq_true] at ha
      have h1 := head_pos (l := []) ha.1 hh
      have h2 := val_app [a] (b :: r)
      have h3 : val [a] * 10 ^ (b :: r).length ≥ 10 ^ (b :: r).length := Nat.le_mul_of_pos_left _ (by omega)
      simpa using Nat.le_trans h3 h2
/-- A numeral without a leading zero whose value is below 10 ^ n has at most n bytes. -/
theorem canon_short {l : List UInt8} (n : Nat) (hn : 1 ≤ n) (h : canon l = true) (hv : val l < 10 ^ n) : l.length ≤ n := by
  rcases canon_length h with h1 | h1
  · omega
  · have : l.length - 1 < n := (Nat.pow_lt_pow_iff_right (by omega : 1 < 10)).1 (Nat.lt_of_le_of_lt h1 hv)
    omega
theorem numOk_dec {M u : Nat} (h : u ≤ M) : numOk M (dec u) = true := by simp [numOk, canon_dec, val_dec, h]
theorem dec_length {u : Nat} (n : Nat) (hn : 1 ≤ n) (h : u < 10 ^ n) : (dec u).length ≤ n := canon_short n hn (canon_dec u) (by rw [val_dec]; exact h)
theorem dgt_eq (d : Nat) : dgt d = 48 + UInt8.ofNat d := by unfold dgt; simp
theorem dec_len64 {u : Nat} (h : u ≤ 18446744073709551615) : (dec u).length ≤ 20 := dec_length 20 (by omega) (by omega)
theorem numOk_pref {M : Nat} {l : List UInt8} (hne : l ≠ []) (hh : l.length = 1 ∨ l.head? ≠ some 48) : numOk M l = pref M l := by
  have h1 : l.isEmpty = false := by cases l with | nil => exact absurd rfl hne | cons a t => rfl
  have h2 : (decide (l.length = 1) || decide (l.head? ≠ some 48)) = true := by simpa using hh
  unfold numOk canon pref
  rw [h1, h2]; rfl
theorem numOk_zero {M : Nat} {l : List UInt8} (h1 : 1 < l.length) (hh : l.head? = some 48) : numOk M l = false := by
  have h2 : (decide (l.length = 1) || decide (l.head? ≠ some 48)) = false := by simp [hh]; omega
  unfold numOk canon
  rw [h2]; simp
/-- What the parsers hand back. -/
def parse (M : Nat) (l : List UInt8) : Nat × Bool := if numOk M l = true then (val l, true) else (0, false)
theorem parse_no {M : Nat} {l : List UInt8} (h : numOk M l = false) : parse M l = (0, false) := by unfold parse; rw [if_neg (by rw [h]; simp)]
theorem parse_yes {M : Nat} {l : List UInt8} (h : numOk M l = true) : parse M l = (val l, true) := by unfold parse; rw [if_pos h]
theorem pref_no {M : Nat} {l : List UInt8} (h : pref M l = false) : numOk M l = false := by
  unfold numOk canon; unfold pref at h
  cases h1 : l.all isDig <;> simp_all
/-- The reference's test at the end: the numeral of the value is the text itself. -/
theorem numOk_back {M : Nat} {l : List UInt8} (hp : pref M l = true) : numOk M l = decide (dec (val l) = l) := by
  by_cases h : dec (val l) = l
  · have hc : canon l = true := by rw [← h]; exact canon_dec _
    simp only [pref, Bool.and_eq_true] at hp
    simp only [h, numOk, hc, hp.2]; simp
  · have hc : canon l = false := by
      cases hc : canon l with
      | false => rfl
      | true => exact absurd (dec_val l hc) h
    simp [numOk, hc, h]
theorem numOk_long {M : Nat} {l : List UInt8} (hM : M ≤ 18446744073709551615) (hl : 20 < l.length) : numOk M l = false := by
  cases h : numOk M l with
  | false => rfl
  | true =>
    simp only [numOk, Bool.and_eq_true, decide_eq_true_eq] at h
    have := canon_short 20 (by omega) h.1 (by omega)
    omega
theorem numOk_nil {M : Nat} : numOk M [] = false := by simp [numOk, canon]
/-- The digits that are still to come: none of 0. -/
def decZ (m : Nat) : List UInt8 := if m = 0 then [] else dec m
theorem decZ_zero : decZ 0 = [] := rfl
theorem decZ_pos {m : Nat} (h : 1 ≤ m) : decZ m = dec m := by unfold decZ; rw [if_neg (by omega)]
theorem decZ_step {m : Nat} (h : 1 ≤ m) : decZ m = decZ (m / 10) ++ [dgt (m % 10)] := by
  by_cases h9 : m ≤ 9
  · rw [decZ_pos h, dec_small h9, show m / 10 = 0 by omega, decZ_zero, show m % 10 = m by omega]; rfl
  · rw [decZ_pos h, decZ_pos (by omega), dec_big (by omega)]
end Go.Proofs.Yteplmjlllnbiiaa.Num
