/-
  What the reference's ReadField takes out of the words of a string (stage 9): of a field's own text it takes the field. Plain facts; no program is named here.
-/
import Derived.Test.YtcbohfncckpolaaDoorTextMath
namespace Go.Proofs.YtcbohfncckpolaaDoor.Num
set_option linter.unusedVariables false
/-- The kind behind a word: the kinds from 1 to j looked at, the last that fits. -/
def kindTo (w : List UInt8) (k0 : Int) : Nat → Int
  | 0 => k0
  | j + 1 => if w = wordL ((j : Int) + 1) then (j : Int) + 1 else kindTo w k0 j
def stepW (f : RF) (w : List UInt8) : RF := (f.1, kindTo w f.2.1 8, f.2.2.1 || w == repW, f.2.2.2.1 || w == packW, if (parse 999999999 w).2 = true then ((parse 999999999 w).1 : Int) else f.2.2.2.2)
def readW : List (List UInt8) → RF
  | [] => (0, 0, false, false, 0)
  | h :: t => t.foldl stepW (((parse 999999999 h).1 : Int), 0, false, false, 0)
theorem kindTo_word {k : Int} (h : 1 ≤ k ∧ k ≤ 8) (k0 : Int) : kindTo (wordL k) k0 8 = k := by
  obtain rfl | rfl | rfl | rfl | rfl | rfl | rfl | rfl : k = 1 ∨ k = 2 ∨ k = 3 ∨ k = 4 ∨ k = 5 ∨ k = 6 ∨ k = 7 ∨ k = 8 := by omega
  all_goals simp [kindTo, wordL, wordR]
theorem kindTo_none {w : List UInt8} (h : ∀ k : Int, 1 ≤ k ∧ k ≤ 8 → w ≠ wordL k) (k0 : Int) : ∀ j : Nat, j ≤ 8 → kindTo w k0 j = k0
  | 0, _ => rfl
  | j + 1, hj => by
    rw [kindTo, if_neg (h _ ⟨by omega, by omega⟩)]
    exact kindTo_none h k0 j (by omega)
theorem parse_letter {c : UInt8} {l : List UInt8} (h : isDig c = false) : parse 999999999 (c :: l) = (0, false) := by
  refine parse_no ?_
  unfold numOk canon
  simp [h]
theorem dec_first {u : Nat} {c : UInt8} {l : List UInt8} (h : dec u = c :: l) : isDig c = true := by
  have := dec_all u
  rw [h] at this
  simp at this
  exact this.1
theorem wordL_first {k : Int} (h : 1 ≤ k ∧ k ≤ 8) : ∃ c l, wordL k = c :: l ∧ isDig c = false := by
  rcases wordL_cases h with ⟨_, e⟩ | ⟨_, e⟩ | ⟨_, e⟩ | ⟨_, e⟩ | ⟨_, e⟩ | ⟨_, e⟩ | ⟨_, e⟩ | ⟨_, e⟩ <;> exact ⟨_, _, e, by decide⟩
theorem dec_not_word {u : Nat} {k : Int} (h : 1 ≤ k ∧ k ≤ 8) : dec u ≠ wordL k := fun e => by
  obtain ⟨c, l, e', hc⟩ := wordL_first h
  rw [e'] at e
  rw [dec_first e] at hc
  cases hc
theorem step_word {k : Int} (h : 1 ≤ k ∧ k ≤ 8) (n : Int) : stepW (n, 0, false, false, 0) (wordL k) = (n, k, false, false, 0) := by
  obtain ⟨c, l, e, hc⟩ := wordL_first h
  have hp : parse 999999999 (wordL k) = (0, false) := by rw [e]; exact parse_letter hc
  have hr : (wordL k == repW) = false ∧ (wordL k == packW) = false := by
    rcases wordL_cases h with ⟨_, e⟩ | ⟨_, e⟩ | ⟨_, e⟩ | ⟨_, e⟩ | ⟨_, e⟩ | ⟨_, e⟩ | ⟨_, e⟩ | ⟨_, e⟩ <;> rw [e] <;> exact ⟨by decide, by decide⟩
  unfold stepW
  simp only [kindTo_word h, hp, hr.1, hr.2]
  simp
theorem step_ref {u : Nat} (hu : u ≤ 999999999) (n k : Int) : stepW (n, k, false, false, 0) (dec u) = (n, k, false, false, (u : Int)) := by
  have hp : parse 999999999 (dec u) = (u, true) := by rw [parse_yes (numOk_dec hu), val_dec]
  have hr : (dec u == repW) = false := by
    refine beq_eq_false_iff_ne.2 fun e => ?_
    have := dec_first e
    exact absurd this (by decide)
  have hq : (dec u == packW) = false := by
    refine beq_eq_false_iff_ne.2 fun e => ?_
    have := dec_first e
    exact absurd this (by decide)
  unfold stepW
  simp only [kindTo_none (fun k h => dec_not_word h) k 8 (Nat.le_refl _), hp, hr, hq]
  simp
theorem step_rep (n k x : Int) (p : Bool) : stepW (n, k, false, p, x) repW = (n, k, true, p, x) := by
  have hk : ∀ k : Int, 1 ≤ k ∧ k ≤ 8 → repW ≠ wordL k := fun k h => by
    rcases wordL_cases h with ⟨_, e⟩ | ⟨_, e⟩ | ⟨_, e⟩ | ⟨_, e⟩ | ⟨_, e⟩ | ⟨_, e⟩ | ⟨_, e⟩ | ⟨_, e⟩ <;> rw [e] <;> decide
  unfold stepW
  simp only [kindTo_none hk k 8 (Nat.le_refl _)]
  rw [show parse 999999999 repW = (0, false) from parse_letter (by decide), show (repW == packW) = false by decide]
  simp
theorem step_pack (n k x : Int) (a : Bool) : stepW (n, k, a, false, x) packW = (n, k, a, true, x) := by
  have hk : ∀ k : Int, 1 ≤ k ∧ k ≤ 8 → packW ≠ wordL k := fun k h => by
    rcases wordL_cases h with ⟨_, e⟩ | ⟨_, e⟩ | ⟨_, e⟩ | ⟨_, e⟩ | ⟨_, e⟩ | ⟨_, e⟩ | ⟨_, e⟩ | ⟨_, e⟩ <;> rw [e] <;> decide
  unfold stepW
  simp only [kindTo_none hk k 8 (Nat.le_refl _)]
  rw [show parse 999999999 packW = (0, false) from parse_letter (by decide), show (packW == repW) = false by decide]
  simp
theorem read_words {f : RF} (h : hasText f) : readW (dec f.1.toNat :: moreW f) = f := by
  obtain ⟨n, k, a, p, x⟩ := f
  obtain ⟨hn, hk, h8, h0⟩ := h
  simp only at hn hk h8 h0
  have hp : parse 999999999 (dec n.toNat) = (n.toNat, true) := by rw [parse_yes (numOk_dec (by omega)), val_dec]
  unfold readW moreW
  simp only [hp]
  rw [show ((n.toNat : Nat) : Int) = n by omega, List.foldl_cons, step_word hk, List.foldl_append]
  have hx : (if k = 8 then [dec x.toNat] else []).foldl stepW (n, k, false, false, 0) = (n, k, false, false, x) := by
    by_cases e : k = 8
    · rw [if_pos e, List.foldl_cons, step_ref (by have := h8 e; omega), List.foldl_nil]
      rw [show ((x.toNat : Nat) : Int) = x by have := h8 e; omega]
    · rw [if_neg e, List.foldl_nil, h0 e]
  rw [hx, List.foldl_append]
  cases a <;> cases p <;> simp [step_rep, step_pack]
/-- Of a field's text the words give the field. -/
theorem read_text {f : RF} (h : hasText f) : readW (partsF 32 (textF f)) = f := by rw [textF_words h]; exact read_words h
/-- Is a string some field's text? Then what its words give has that text; else it has not. -/
theorem read_tells (s : List UInt8) (hs : s ≠ []) : (textF (readW (partsF 32 s)) = s ↔ ∃ f, hasText f ∧ textF f = s) := by
  constructor
  · intro h
    refine ⟨_, Classical.byContradiction fun hn => hs ?_, h⟩
    rw [← h]; unfold textF; rw [if_neg hn]
  · rintro ⟨f, hf, rfl⟩
    rw [read_text hf]
end Go.Proofs.YtcbohfncckpolaaDoor.Num
