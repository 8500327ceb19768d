/-
  What the reference's right plan (l6Right) is: its Ids, and each field right; nothing is wrong with it. For any program.
-/
import Derived.Test.YtpkofbdfnbpfpaaGreatFirst
import Derived.Test.YtpkofbdfnbpfpaaGreatOwnRead
namespace Go.Proofs.YtpkofbdfnbpfpaaGreat.Num
open Go.RowKit Go.Proofs
set_option linter.unusedVariables false
set_option linter.unusedSimpArgs false

def fourIds : List Int := [5, 1, 99, 7]
def rightIds (ms : List OM) : Prop := ms.length ≤ 4 ∧ ∀ j (h : j < ms.length), some ms[j].1 = fourIds[j]?
/-- A field that is right beside the messages ms. -/
def rightF (ms : List OM) (f : RF) : Prop := numOkB f.1 = true ∧ (1 ≤ f.2.1 ∧ f.2.1 ≤ 8) ∧ (f.2.2.2.1 = true → f.2.2.1 = true ∧ numericB f.2.1 = true) ∧ (f.2.1 = 8 → ∃ j, ∃ h : j < ms.length, ms[j].1 = f.2.2.2.2) ∧ (f.2.1 ≠ 8 → f.2.2.2.2 = 0)
def Right (ms : List OM) : Prop := rightIds ms ∧ ∀ j (h : j < ms.length), (∀ f ∈ ms[j].2.2, rightF ms f) ∧ ms[j].2.2.Pairwise fun f g => f.1 ≠ g.1
theorem Right.start : Right [] := ⟨⟨by simp, fun j h => by simp at h⟩, fun j h => by simp at h⟩
theorem rightIds.push {ms : List OM} (h : rightIds ms) (hl : ms.length < 4) {id : Int} (hid : fourIds[ms.length]? = some id) (v : Value) : rightIds (ms ++ [(id, v, [])]) := by
  refine ⟨by simp; omega, fun j hj => ?_⟩
  by_cases e : j < ms.length
  · rw [List.getElem_append_left e]; exact h.2 j e
  · obtain rfl : j = ms.length := by simp at hj; omega
    rw [List.getElem_append_right (by omega)]
    simp only [Nat.sub_self, List.getElem_cons_zero]
    exact hid.symm
theorem Right.of_ids {ms : List OM} (h : rightIds ms) (he : ∀ j (h : j < ms.length), ms[j].2.2.length = 0) : Right ms :=
  ⟨h, fun j hj => by
    rw [List.length_eq_zero_iff.1 (he j hj)]
    exact ⟨fun f hf => by simp at hf, .nil⟩⟩
/-- A field more. -/
theorem Right.more {ms : List OM} (h : Right ms) (k : Nat) (hk : k < ms.length) (v : Value) (f : RF) (hf : rightF ms f) (hn : hasNum ms[k].2.2 f.1 = false) : Right (ms.set k (ms[k].1, v, ms[k].2.2 ++ [f])) := by
  have hlen : (ms.set k (ms[k].1, v, ms[k].2.2 ++ [f])).length = ms.length := List.length_set
  have hid : ∀ j (hj : j < ms.length) (hj' : j < (ms.set k (ms[k].1, v, ms[k].2.2 ++ [f])).length), (ms.set k (ms[k].1, v, ms[k].2.2 ++ [f]))[j].1 = ms[j].1 := fun j hj hj' => by
    rw [List.getElem_set]; split
    · rename_i e; subst e; rfl
    · rfl
  have hF : ∀ g, rightF ms g → rightF (ms.set k (ms[k].1, v, ms[k].2.2 ++ [f])) g := fun g ⟨h1, h2, h3, h4, h5⟩ =>
    ⟨h1, h2, h3, fun e => by obtain ⟨j, hj, he⟩ := h4 e; exact ⟨j, by rw [hlen]; exact hj, (hid j hj _).trans he⟩, h5⟩
  refine ⟨⟨by rw [hlen]; exact h.1.1, fun j hj => ?_⟩, fun j hj => ?_⟩
  · have hj' : j < ms.length := by rw [hlen] at hj; exact hj
    rw [hid j hj' hj]; exact h.1.2 j hj'
  · have hj' : j < ms.length := by rw [hlen] at hj; exact hj
    by_cases e : k = j
    · subst e
      rw [List.getElem_set_self]
      simp only
      obtain ⟨h1, h2⟩ := h.2 k hk
      refine ⟨fun g hg => ?_, ?_⟩
      · rcases List.mem_append.1 hg with hg | hg
        · exact hF g (h1 g hg)
        · rw [List.mem_singleton.1 hg]; exact hF f hf
      · refine List.pairwise_append.2 ⟨h2, List.pairwise_singleton _ _, fun a ha b hb => ?_⟩
        rw [List.mem_singleton.1 hb]
        unfold hasNum at hn
        rw [List.any_eq_false] at hn
        have := hn a ha
        simpa using this
    · rw [List.getElem_set_ne e]
      obtain ⟨h1, h2⟩ := h.2 j hj'
      exact ⟨fun g hg => hF g (h1 g hg), h2⟩
theorem four_ne {i j : Nat} {x : Int} (hi : some x = fourIds[i]?) (hj : some x = fourIds[j]?) (hi4 : i < 4) (hj4 : j < 4) : i = j := by
  unfold fourIds at hi hj
  match i, j, hi4, hj4 with
  | 0, 0, _, _ => rfl
  | 1, 1, _, _ => rfl
  | 2, 2, _, _ => rfl
  | 3, 3, _, _ => rfl
  | 0, 1, _, _ | 0, 2, _, _ | 0, 3, _, _ | 1, 0, _, _ | 1, 2, _, _ | 1, 3, _, _ | 2, 0, _, _ | 2, 1, _, _ | 2, 3, _, _ | 3, 0, _, _ | 3, 1, _, _ | 3, 2, _, _ =>
    simp at hi hj
    omega
theorem four_in {i : Nat} {x : Int} (hi : some x = fourIds[i]?) (hi4 : i < 4) : 1 ≤ x ∧ x ≤ 99 := by
  unfold fourIds at hi
  match i, hi4 with
  | 0, _ | 1, _ | 2, _ | 3, _ =>
    simp at hi
    omega
theorem plain_get (ms : List OM) (j : Nat) (h : j < (plain ms).length) : (plain ms)[j] = ((ms[j]'(by simpa [plain] using h)).1, (ms[j]'(by simpa [plain] using h)).2.2) := by simp [plain]
/-- Nothing is wrong with a right plan. -/
theorem Right.all {ms : List OM} (h : Right ms) (h8 : ∀ j (hj : j < ms.length), ms[j].2.2.length ≤ 8) : AllB (plain ms) (plain ms).length := by
  have hpl : (plain ms).length = ms.length := by simp [plain]
  intro j hj _
  have hj' : j < ms.length := by omega
  have hm := plain_get ms j hj
  have hid : ∀ i (hi : i < (plain ms).length), (plain ms)[i].1 = (ms[i]'(by omega)).1 := fun i hi => by rw [plain_get]
  have h4 := h.1.1
  refine ⟨?_, fun p hp => ?_⟩
  · rw [msgCode_in hj, hm]
    unfold msgCodeN
    have hin := four_in (h.1.2 j hj') (by omega)
    have hno : hasId (plain ms) ms[j].1 j = false := hasId_no fun i hi hij e => by
      rw [hid i hi] at e
      have h1 := h.1.2 i (by omega)
      rw [e] at h1
      have := four_ne h1 (h.1.2 j hj') (by omega) (by omega)
      omega
    have := h8 j hj'
    rw [if_neg (by simpa using hin), if_neg (by simp [hno]), if_neg (by simp only; omega)]
  · have hp' : p < ms[j].2.2.length := by rw [hm] at hp; exact hp
    rw [fieldCode_in hj hp]
    obtain ⟨hF, hN⟩ := h.2 j hj'
    obtain ⟨f1, f2, f3, f4, f5⟩ := hF _ (List.getElem_mem hp')
    have e1 : (plain ms)[j].2 = ms[j].2.2 := by rw [hm]
    have e2 : (plain ms)[j].2[p] = ms[j].2.2[p] := by simp [plain]
    rw [e2, e1]
    unfold fieldCodeN
    have hnn : hasNum (ms[j].2.2.take p) ms[j].2.2[p].1 = false := hasNum_no fun i hi e => by
      rw [List.length_take] at hi
      rw [List.getElem_take] at e
      exact (List.pairwise_iff_getElem.1 hN) i p (by omega) hp' (by omega) e
    rw [if_neg (by simp [f1]), if_neg (by simp [hnn]), if_neg (by simpa using f2), if_neg (by
      intro hc
      obtain ⟨c1, c2⟩ := hc
      have := f3 c1
      rcases c2 with c2 | c2
      · rw [this.1] at c2; cases c2
      · rw [this.2] at c2; cases c2), if_neg (by
      intro hc
      rcases hc with ⟨c1, c2⟩ | ⟨c1, c2⟩
      · obtain ⟨i, hi, he⟩ := f4 c1
        have hy := hasId_yes (r := plain ms) (id := ms[j].2.2[p].2.2.2.2) (n := (plain ms).length) (k := i) (by omega) (by omega) ((hid i (by omega)).trans he)
        rw [hy] at c2; cases c2
      · exact c2 (f5 c1))]
theorem Right.first {ms : List OM} (h : Right ms) (h8 : ∀ j (hj : j < ms.length), ms[j].2.2.length ≤ 8) {f : Int × Int × Int} (hf : First (plain ms) f) : f = (0, 0, 0) := by
  have hpl : (plain ms).length = ms.length := by simp [plain]
  have h4 := h.1.1
  exact hf.one (.inr ⟨by omega, .inl ⟨h.all h8, rfl⟩⟩)
end Go.Proofs.YtpkofbdfnbpfpaaGreat.Num
