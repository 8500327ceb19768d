/-
  What the reference's ReadField takes out of a string (stage 9): of a field's own text it takes the field. Plain facts; no program is named here.
-/
import Derived.Test.YtcbohfncckpolaaDoorTextRead
namespace Go.Proofs.YtcbohfncckpolaaDoor.Num
set_option linter.unusedVariables false
/-- The field of a string, where the string is a field's text. -/
def readF (s : List UInt8) : Option RF := if s ≠ [] ∧ s.length ≤ 60 ∧ textF (readW (partsF 32 s)) = s then some (readW (partsF 32 s)) else none
theorem wordL_len {k : Int} (h : 1 ≤ k ∧ k ≤ 8) : (wordL k).length ≤ 5 := by
  rcases wordL_cases h with ⟨_, e⟩ | ⟨_, e⟩ | ⟨_, e⟩ | ⟨_, e⟩ | ⟨_, e⟩ | ⟨_, e⟩ | ⟨_, e⟩ | ⟨_, e⟩ <;> rw [e] <;> decide
theorem textF_len {f : RF} (h : hasText f) : (textF f).length ≤ 60 := by
  obtain ⟨n, k, a, p, x⟩ := f
  unfold textF
  rw [if_pos h]
  obtain ⟨hn, hk, h8, h0⟩ := h
  simp only at hn hk h8 h0
  have h1 := dec_length (u := n.toNat) 9 (by omega) (by omega)
  have h2 := wordL_len hk
  unfold joinF moreW
  by_cases e : k = 8
  · have h3 := dec_length (u := x.toNat) 2 (by omega) (by have := h8 e; omega)
    cases a <;> cases p <;> simp [e, repW, packW] <;> subst e <;> omega
  · cases a <;> cases p <;> simp [e, repW, packW] <;> omega
theorem readF_text {f : RF} (h : hasText f) : readF (textF f) = some f := by
  unfold readF
  rw [read_text h, if_pos ⟨textF_ne h, textF_len h, rfl⟩]
/-- Read: some field, then the string is its text; none, then it is no field's text. -/
theorem readF_some {s : List UInt8} {f : RF} (h : readF s = some f) : hasText f ∧ textF f = s := by
  unfold readF at h
  by_cases hc : s ≠ [] ∧ s.length ≤ 60 ∧ textF (readW (partsF 32 s)) = s
  · rw [if_pos hc] at h
    injection h with h
    subst h
    refine ⟨Classical.byContradiction fun hn => hc.1 ?_, hc.2.2⟩
    rw [← hc.2.2]; unfold textF; rw [if_neg hn]
  · rw [if_neg hc] at h; cases h
theorem readF_none {s : List UInt8} (h : readF s = none) (f : RF) (hf : hasText f) : textF f ≠ s := fun e => by
  rw [← e, readF_text hf] at h; cases h
end Go.Proofs.YtcbohfncckpolaaDoor.Num
