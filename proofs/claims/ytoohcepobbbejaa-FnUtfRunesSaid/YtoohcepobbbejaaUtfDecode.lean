/-
  Plain lemmas on what a range over a string gives (the model's decoding) and the bytes of a code point.
-/
import Derived.Test.YtoohcepobbbejaaUtfRune
import Derived.Laws.Runes
namespace Go.Proofs.Ytoohcepobbbejaa.Utf
set_option linter.unusedVariables false

theorem get_at (s : ByteArray) (i : Nat) (h : i < s.size) : s.get! i = s[i] := by
  simp [ByteArray.get!, getElem!_pos, h]
  rfl
theorem drop_get (s : ByteArray) (k : Nat) (h : k < s.size) : s.data.toList.drop k = s[k] :: s.data.toList.drop (k + 1) := by
  have h2 : k < s.data.toList.length := by simpa using h
  rw [List.drop_eq_getElem_cons h2]; rfl
theorem take_1 (s : ByteArray) (i : Nat) (h : i < s.size) : (s.data.toList.drop i).take 1 = [s[i]] := by rw [drop_get s i h]; rfl
theorem take_2 (s : ByteArray) (i : Nat) (h : i + 1 < s.size) : (s.data.toList.drop i).take 2 = [s[i], s[i + 1]] := by rw [drop_get s i (by omega), drop_get s (i + 1) h]; rfl
theorem take_3 (s : ByteArray) (i : Nat) (h : i + 2 < s.size) : (s.data.toList.drop i).take 3 = [s[i], s[i + 1], s[i + 2]] := by rw [drop_get s i (by omega), drop_get s (i + 1) (by omega), drop_get s (i + 2) h]; rfl
theorem take_4 (s : ByteArray) (i : Nat) (h : i + 3 < s.size) : (s.data.toList.drop i).take 4 = [s[i], s[i + 1], s[i + 2], s[i + 3]] := by rw [drop_get s i (by omega), drop_get s (i + 1) (by omega), drop_get s (i + 2) (by omega), drop_get s (i + 3) h]; rfl
theorem valid_right {c : Nat} : Utf8.valid (c : Int) = decide (Right (c : Int)) := by
  rw [Go.validRune_eq]
  unfold Go.validRune
  by_cases h : Right (c : Int)
  · rw [decide_eq_true h]; unfold Right at h; exact decide_eq_true (by omega)
  · rw [decide_eq_false h]; unfold Right at h; exact decide_eq_false (by omega)
theorem cont_spec (s : ByteArray) (i k : Nat) : (decide (i + k < s.size) && (s.get! (i + k)).toNat / 64 == 2) = true ↔ ∃ h : i + k < s.size, 128 ≤ s[i + k].toNat ∧ s[i + k].toNat ≤ 191 := by
  rw [Bool.and_eq_true, decide_eq_true_iff, beq_iff_eq]
  constructor
  · rintro ⟨h, e⟩
    rw [get_at s _ h] at e
    exact ⟨h, by omega, by omega⟩
  · rintro ⟨h, e1, e2⟩
    refine ⟨h, ?_⟩
    rw [get_at s _ h]; omega
/-- What decoding gives: a code point whose bytes these are, or the mark of one byte that begins none. -/
theorem decode_told (s : ByteArray) (i : Nat) (h : i < s.size) : Utf8.decode s i = (65533, 1) ∨ ∃ c n : Nat, Utf8.decode s i = (c, n) ∧ 1 ≤ n ∧ i + n ≤ s.size ∧ rune (c : Int) = (s.data.toList.drop i).take n := by
  have e0 : s.get! (i + 0) = s[i] := by rw [Nat.add_zero]; exact get_at s i h
  unfold Utf8.decode
  simp only [e0, Utf8.runeError]
  have hb := s[i].toNat_lt
  by_cases c1 : s[i].toNat < 128
  · rw [if_pos c1]
    exact .inr ⟨_, _, rfl, by omega, by omega, by rw [take_1 s i h, rune_1 c1, (u8_eq (by omega)).2 rfl]⟩
  · rw [if_neg c1]
    split
    · next hc =>
      rw [Bool.and_eq_true, beq_iff_eq, cont_spec] at hc
      obtain ⟨hd, h1, q1, q2⟩ := hc
      rw [get_at s _ h1]
      split
      · next hge =>
        refine .inr ⟨_, _, rfl, by omega, by omega, ?_⟩
        rw [take_2 s i h1, rune_2 (by omega) (by omega), (u8_eq (b := s[i]) (by omega)).2 (by omega), (u8_eq (b := s[i + 1]) (by omega)).2 (by omega)]
      · exact .inl rfl
    · split
      · next hc =>
        rw [Bool.and_eq_true, Bool.and_eq_true, beq_iff_eq, cont_spec, cont_spec] at hc
        obtain ⟨⟨hd, h1, q1, q2⟩, h2, q3, q4⟩ := hc
        rw [get_at s _ h1, get_at s _ h2]
        split
        · next hge =>
          rw [Bool.and_eq_true, decide_eq_true_iff] at hge
          have hv := hge.2
          rw [valid_right, decide_eq_true_iff] at hv
          unfold Right at hv
          have hge1 := hge.1
          refine .inr ⟨_, _, rfl, by omega, by omega, ?_⟩
          rw [take_3 s i h2, rune_3 (by omega) (by omega) (by omega), (u8_eq (b := s[i]) (by omega)).2 (by omega), (u8_eq (b := s[i + 1]) (by omega)).2 (by omega), (u8_eq (b := s[i + 2]) (by omega)).2 (by omega)]
        · exact .inl rfl
      · split
        · next hc =>
          rw [Bool.and_eq_true, Bool.and_eq_true, Bool.and_eq_true, beq_iff_eq, cont_spec, cont_spec, cont_spec] at hc
          obtain ⟨⟨⟨hd, h1, q1, q2⟩, h2, q3, q4⟩, h3, q5, q6⟩ := hc
          rw [get_at s _ h1, get_at s _ h2, get_at s _ h3]
          split
          · next hge =>
            rw [Bool.and_eq_true, decide_eq_true_iff] at hge
            have hv := hge.2
            rw [valid_right, decide_eq_true_iff] at hv
            unfold Right at hv
            have hge1 := hge.1
            refine .inr ⟨_, _, rfl, by omega, by omega, ?_⟩
            rw [take_4 s i h3, rune_4 (by omega) (by omega), (u8_eq (b := s[i]) (by omega)).2 (by omega), (u8_eq (b := s[i + 1]) (by omega)).2 (by omega), (u8_eq (b := s[i + 2]) (by omega)).2 (by omega), (u8_eq (b := s[i + 3]) (by omega)).2 (by omega)]
          · exact .inl rfl
        · exact .inl rfl
theorem cont_yes (s : ByteArray) (i k : Nat) (h : i + k < s.size) (h1 : 128 ≤ s[i + k].toNat ∧ s[i + k].toNat ≤ 191) : (decide (i + k < s.size) && (s.get! (i + k)).toNat / 64 == 2) = true := (cont_spec s i k).2 ⟨h, h1⟩
theorem list1 {a b : UInt8} (h : [a] = [b]) : a = b := by injection h
theorem list2 {a b c d : UInt8} (h : [a, b] = [c, d]) : a = c ∧ b = d := by injection h with h1 h2; exact ⟨h1, list1 h2⟩
theorem list3 {a b c d e f : UInt8} (h : [a, b, c] = [d, e, f]) : a = d ∧ b = e ∧ c = f := by injection h with h1 h2; exact ⟨h1, list2 h2⟩
theorem list4 {a b c d e f g i : UInt8} (h : [a, b, c, d] = [e, f, g, i]) : a = e ∧ b = f ∧ c = g ∧ d = i := by injection h with h1 h2; exact ⟨h1, list3 h2⟩
/-- Bytes of a code point are decoded to it. -/
theorem decode_rune (s : ByteArray) (i m k : Nat) (hm : i + m ≤ s.size) (hR : Right (k : Int)) (h : rune (k : Int) = (s.data.toList.drop i).take m) : Utf8.decode s i = (k, m) := by
  have hlen := congrArg List.length h
  have hl : (s.data.toList.drop i).length = s.size - i := by rw [List.length_drop]; simp
  rw [List.length_take, hl, show min m (s.size - i) = m by omega] at hlen
  rcases rune_cases (k : Int) with ⟨h', _⟩ | ⟨k', hk, _, hc⟩
  · exact absurd hR h'
  · obtain rfl : k = k' := by omega
    unfold Utf8.decode
    simp only [Utf8.runeError]
    rcases hc with hc | ⟨h0, h1⟩ | ⟨h0, h1, h2⟩ | ⟨h0, h1⟩
    · rw [rune_1 hc] at h hlen
      obtain rfl : m = 1 := by simpa using hlen.symm
      rw [take_1 s i (by omega)] at h
      have hb := (u8_eq (by omega)).1 (list1 h)
      have e0 : s.get! (i + 0) = s[i]'(by omega) := get_at s i (by omega)
      simp only [e0]
      rw [if_pos (by omega), hb]
    · rw [rune_2 h0 h1] at h hlen
      obtain rfl : m = 2 := by simpa using hlen.symm
      rw [take_2 s i (by omega)] at h
      obtain ⟨q0, q1⟩ := list2 h
      have p0 := (u8_eq (by omega)).1 q0
      have p1 := (u8_eq (by omega)).1 q1
      have e0 : s.get! (i + 0) = s[i]'(by omega) := get_at s i (by omega)
      simp only [e0]
      rw [if_neg (by omega),
        if_pos (by rw [Bool.and_eq_true, beq_iff_eq]; exact ⟨by omega, cont_yes s i 1 (by omega) (by omega)⟩), get_at s (i + 1) (by omega), if_pos (by omega)]
      congr 1; omega
    · rw [rune_3 h0 h1 h2] at h hlen
      obtain rfl : m = 3 := by simpa using hlen.symm
      rw [take_3 s i (by omega)] at h
      obtain ⟨q0, q1, q2⟩ := list3 h
      have p0 := (u8_eq (by omega)).1 q0
      have p1 := (u8_eq (by omega)).1 q1
      have p2 := (u8_eq (by omega)).1 q2
      have hv : (s[i]'(by omega)).toNat % 16 * 4096 + (s[i + 1]'(by omega)).toNat % 64 * 64 + (s[i + 2]'(by omega)).toNat % 64 = k := by omega
      have e0 : s.get! (i + 0) = s[i]'(by omega) := get_at s i (by omega)
      simp only [e0]
      rw [if_neg (by omega), if_neg (by rw [Bool.and_eq_true, beq_iff_eq]; omega),
        if_pos (by rw [Bool.and_eq_true, Bool.and_eq_true, beq_iff_eq]; exact ⟨⟨by omega, cont_yes s i 1 (by omega) (by omega)⟩, cont_yes s i 2 (by omega) (by omega)⟩), get_at s (i + 1) (by omega), get_at s (i + 2) (by omega), hv,
        if_pos (by rw [Bool.and_eq_true, decide_eq_true_iff, valid_right, decide_eq_true_iff]; exact ⟨h0, hR⟩)]
    · rw [rune_4 h0 h1] at h hlen
      obtain rfl : m = 4 := by simpa using hlen.symm
      rw [take_4 s i (by omega)] at h
      obtain ⟨q0, q1, q2, q3⟩ := list4 h
      have p0 := (u8_eq (by omega)).1 q0
      have p1 := (u8_eq (by omega)).1 q1
      have p2 := (u8_eq (by omega)).1 q2
      have p3 := (u8_eq (by omega)).1 q3
      have hv : (s[i]'(by omega)).toNat % 8 * 262144 + (s[i + 1]'(by omega)).toNat % 64 * 4096 + (s[i + 2]'(by omega)).toNat % 64 * 64 + (s[i + 3]'(by omega)).toNat % 64 = k := by omega
      have e0 : s.get! (i + 0) = s[i]'(by omega) := get_at s i (by omega)
      simp only [e0]
      rw [if_neg (by omega), if_neg (by rw [Bool.and_eq_true, beq_iff_eq]; omega), if_neg (by rw [Bool.and_eq_true, Bool.and_eq_true, beq_iff_eq]; omega),
        if_pos (by rw [Bool.and_eq_true, Bool.and_eq_true, Bool.and_eq_true, beq_iff_eq]; exact ⟨⟨⟨by omega, cont_yes s i 1 (by omega) (by omega)⟩, cont_yes s i 2 (by omega) (by omega)⟩, cont_yes s i 3 (by omega) (by omega)⟩), get_at s (i + 1) (by omega), get_at s (i + 2) (by omega), get_at s (i + 3) (by omega), hv,
        if_pos (by rw [Bool.and_eq_true, decide_eq_true_iff, valid_right, decide_eq_true_iff]; exact ⟨h0, hR⟩)]
/-- A byte that is decoded to the mark begins no good text. -/
theorem decode_bad (s : ByteArray) (i : Nat) (h : i < s.size) (he : Utf8.decode s i = (65533, 1)) : good (s.data.toList.drop i) = false ∧ ∀ m (k : Nat), i + m ≤ s.size → Right (k : Int) → rune (k : Int) ≠ (s.data.toList.drop i).take m := by
  have key : ∀ m (k : Nat), i + m ≤ s.size → Right (k : Int) → rune (k : Int) ≠ (s.data.toList.drop i).take m := by
    intro m k hm hR e
    have hd := decode_rune s i m k hm hR e
    rw [he] at hd
    injection hd with e1 e2
    have hl := (rune_facts hR).1
    have hlen := congrArg List.length e
    have hl2 : (s.data.toList.drop i).length = s.size - i := by rw [List.length_drop]; simp
    rw [List.length_take, hl2, hl, ← e1, ← e2] at hlen
    have : widthN ((65533 : Nat) : Int) = 3 := rfl
    omega
  refine ⟨?_, key⟩
  cases hg : good (s.data.toList.drop i) with
  | false => rfl
  | true =>
    have hd := drop_get s i h
    rw [hd] at hg
    obtain ⟨h1, h2⟩ := good_head hg
    rw [← hd] at h1 h2
    have hl2 : (s.data.toList.drop i).length = s.size - i := by rw [List.length_drop]; simp
    rw [hl2] at h1
    rcases rune_cases (foldN (leadOf s[i].toNat) ((s.data.toList.drop (i + 1)).take (sizeOf s[i].toNat - 1))) with ⟨_, h3⟩ | ⟨k, hk, hR, _⟩
    · rw [h3] at h2
      have h0 : 0 < sizeOf s[i].toNat := by unfold sizeOf; repeat (first | split | omega)
      have := congrArg List.length h2
      rw [List.length_take, hl2] at this
      simp at this; omega
    · rw [hk] at h2 hR
      exact absurd h2 (key _ k (by omega) hR)
end Go.Proofs.Ytoohcepobbbejaa.Utf
