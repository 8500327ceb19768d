/-
  Plain facts for the laws on merging: what is merged and what is divided stays small. For any program.
-/
import Derived.Test.YteplmjlllnbiiaaMergeS
import Derived.Test.YteplmjlllnbiiaaOwnEv
namespace Go.Proofs.Yteplmjlllnbiiaa.Num
open Go.RowKit Go.Proofs
set_option linter.unusedVariables false

theorem merged_small {l : List Ev} (h : SmallE l) : SmallE (mergedE l) := ⟨Nat.le_trans (merged_len l) h.1, Nat.le_trans (merged_texts l) h.2⟩
theorem shatterOne_texts {n : Nat} (hn : 0 < n) (e : Ev) : textsLen (shatterOne n e) = e.text.size := by
  by_cases h : e.kind = 4
  · rw [shatter_part h]
    unfold textsLen
    rw [List.map_map, ← pieces_size hn _ e.text rfl]
    congr 1
  · rw [shatter_other h]; simp [textsLen]
theorem shattered_texts (l : List Ev) (n : Int) : textsLen (shatteredE l n) = textsLen l := by
  by_cases h : n < 1
  · rw [shattered_zero h]
  · obtain ⟨k, rfl⟩ := Int.eq_ofNat_of_zero_le (show 0 ≤ n by omega)
    have hk : 0 < k := by omega
    rw [shattered_pos hk]
    induction l with
    | nil => rfl
    | cons e l ih => rw [List.flatMap_cons, textsLen_append, shatterOne_texts hk, ih]; simp [textsLen]
theorem shattered_small {l : List Ev} (n : Int) (h : l.length + textsLen l ≤ 1048576) : SmallE (shatteredE l n) := ⟨Nat.le_trans (shattered_len l n) h, by rw [shattered_texts]; omega⟩
theorem OwnE.some {w : World} {B : Nat} {T : TypeId} {v : Value} {l : List Ev} (h : OwnE w B T v l) : v = .slice none 0 0 ∨ ∃ ad m c, v = .slice (some ad) m c := by
  rcases h.form with ⟨h, _⟩ | ⟨g, cap, h, _⟩
  · exact .inl h
  · exact .inr ⟨_, _, _, h⟩
/-- Two adjacent kinds of what is merged are not both texts. -/
theorem calm_at {l : List Ev} (h : Calm l) {i : Nat} (hi : i + 1 < l.length) : ¬ ((l[i + 1]'hi).kind = 4 ∧ (l[i]'(by omega)).kind = 4) := fun g => h.2 i hi ⟨g.2, g.1⟩
end Go.Proofs.Yteplmjlllnbiiaa.Num
