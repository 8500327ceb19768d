/-
  Facts on compiling by plain lists: what RawFrom gives of a valid schema has no violation; what is compiled of a description without a violation is a valid schema. For any program.
-/
import Derived.Test.YthjnpipincpkgaaGreatDoorCompBack
import Derived.Test.YthjnpipincpkgaaGreatDoorCodes
import Derived.Test.YthjnpipincpkgaaGreatDoorFirst
namespace Go.Proofs.YthjnpipincpkgaaGreatDoor.Num
set_option linter.unusedVariables false
set_option linter.unusedSimpArgs false

theorem asc_get {α : Type} {g : α → Int} {l : List α} (h : l.Pairwise fun a b => g a < g b) {i j : Nat} (hj : j < l.length) (hij : i < j) : g l[i] < g l[j] :=
  List.pairwise_iff_getElem.1 h i j (by omega) hj hij
theorem fieldOk_of {n : Nat} {f : RF} (h : fieldOkB n f = true) : numOkB f.1 = true ∧ (1 ≤ f.2.1 ∧ f.2.1 ≤ 8) ∧ ¬ (f.2.2.2.1 = true ∧ (f.2.2.1 = false ∨ numericB f.2.1 = false)) ∧ (f.2.1 = 8 → 0 ≤ f.2.2.2.2 ∧ f.2.2.2.2 ≤ (n : Int) - 1) ∧ (f.2.1 ≠ 8 → f.2.2.2.2 = -1) := by
  unfold fieldOkB at h
  split at h
  · cases h
  · split at h
    · cases h
    · split at h
      · cases h
      · rename_i h1 h2 h3
        refine ⟨by simpa using h1, Classical.byContradiction fun e => h2 e, h3, fun e => ?_, fun e => ?_⟩
        · rw [if_pos e] at h; exact of_decide_eq_true h
        · rw [if_neg e] at h; simpa using h
theorem fieldOk_to {n : Nat} {f : RF} (h1 : numOkB f.1 = true) (h2 : 1 ≤ f.2.1 ∧ f.2.1 ≤ 8) (h3 : ¬ (f.2.2.2.1 = true ∧ (f.2.2.1 = false ∨ numericB f.2.1 = false))) (h4 : f.2.1 = 8 → 0 ≤ f.2.2.2.2 ∧ f.2.2.2.2 ≤ (n : Int) - 1) (h5 : f.2.1 ≠ 8 → f.2.2.2.2 = -1) : fieldOkB n f = true := by
  unfold fieldOkB
  rw [if_neg (by simp [h1]), if_neg (fun e => e h2), if_neg h3]
  split
  · rename_i e; exact decide_eq_true (h4 e)
  · rename_i e; simp [h5 e]
theorem fieldCode_zero {r : List RM} {l : List RF} {k : Nat} {f : RF} : fieldCodeN r l k f = 0 ↔ (numOkB f.1 = true ∧ hasNum (l.take k) f.1 = false ∧ (1 ≤ f.2.1 ∧ f.2.1 ≤ 8) ∧ ¬ (f.2.2.2.1 = true ∧ (f.2.2.1 = false ∨ numericB f.2.1 = false)) ∧ (f.2.1 = 8 → hasId r f.2.2.2.2 r.length = true) ∧ (f.2.1 ≠ 8 → f.2.2.2.2 = 0)) := by
  unfold fieldCodeN
  constructor
  · intro h
    split at h
    · cases h
    · split at h
      · cases h
      · split at h
        · cases h
        · split at h
          · cases h
          · split at h
            · cases h
            · rename_i h1 h2 h3 h4 h5
              refine ⟨by simpa using h1, by simpa using h2, Classical.byContradiction fun e => h3 e, h4, fun e => ?_, fun e => ?_⟩
              · cases hh : hasId r f.2.2.2.2 r.length with
                | true => rfl
                | false => exact absurd (.inl ⟨e, hh⟩) h5
              · exact Classical.byContradiction fun hh => h5 (.inr ⟨e, hh⟩)
  · rintro ⟨h1, h2, h3, h4, h5, h6⟩
    rw [if_neg (by simp [h1]), if_neg (by simp [h2]), if_neg (fun e => e h3), if_neg h4, if_neg]
    rintro (⟨e, hh⟩ | ⟨e, hh⟩)
    · rw [h5 e] at hh; cases hh
    · exact hh (h6 e)
theorem msgCode_zero {r : List RM} {k : Nat} {m : RM} : msgCodeN r k m = 0 ↔ ((1 ≤ m.1 ∧ m.1 ≤ 99) ∧ hasId r m.1 k = false ∧ m.2.length ≤ 8) := by
  unfold msgCodeN
  constructor
  · intro h
    split at h
    · cases h
    · split at h
      · cases h
      · split at h
        · cases h
        · rename_i h1 h2 h3
          exact ⟨Classical.byContradiction fun e => h1 e, by simpa using h2, by omega⟩
  · rintro ⟨h1, h2, h3⟩
    rw [if_neg (fun e => e h1), if_neg (by simp [h2]), if_neg (by omega)]
/-- What RawFrom gives of a valid schema has no violation. -/
theorem back_all {s : List RM} (h : SchemaP s) : AllB (rawFromR s) (rawFromR s).length := by
  have hr : rawFromR s = s.map (backM s) := by unfold rawFromR; rw [if_pos (schema_yes h)]
  rw [hr]
  intro j hj _
  have hjs : j < s.length := by simpa using hj
  obtain ⟨i1, i2, i3, i4⟩ := h.2 j hjs
  have hm : (s.map (backM s))[j] = backM s s[j] := List.getElem_map ..
  refine ⟨?_, fun p hp => ?_⟩
  · rw [msgCode_in hj, hm]
    refine msgCode_zero.2 ⟨i1, ?_, by simpa [backM] using i3⟩
    refine hasId_no fun q hq hqj => ?_
    rw [List.getElem_map]
    have := asc_get (g := fun m : RM => m.1) h.ids hjs hqj
    show s[q].1 ≠ s[j].1
    omega
  · rw [fieldCode_in hj hp]
    simp only [hm] at hp ⊢
    have hps : p < s[j].2.length := by simpa [backM] using hp
    obtain ⟨k1, k2⟩ := i4 p hps
    obtain ⟨f1, f2, f3, f4, f5⟩ := fieldOk_of k1
    have hf : (backM s s[j]).2[p] = backF s s[j].2[p] := List.getElem_map ..
    rw [hf]
    refine fieldCode_zero.2 ⟨f1, ?_, f2, f3, fun e => ?_, fun e => ?_⟩
    · refine hasNum_no fun q hq => ?_
      have hq' : q < p := by rw [List.length_take] at hq; omega
      rw [List.getElem_take]
      have h1 : (backM s s[j]).2[q]'(by omega) = backF s (s[j].2[q]'(by omega)) := List.getElem_map ..
      rw [h1]
      have := asc_get (g := fun f : RF => f.1) (h.fields (List.getElem_mem hjs)) hps hq'
      show (s[j].2[q]'(by omega)).1 ≠ s[j].2[p].1
      omega
    · have e' : s[j].2[p].2.1 = 8 := e
      have hb := f4 e'
      obtain ⟨n, hn⟩ := Int.eq_ofNat_of_zero_le hb.1
      have hns : n < s.length := by omega
      refine hasId_yes (k := n) (by simpa using hns) (by simpa using hns) ?_
      rw [List.getElem_map]
      show s[n].1 = if s[j].2[p].2.1 = 8 then (s.getD s[j].2[p].2.2.2.2.toNat (0, [])).1 else 0
      rw [if_pos e', hn, Int.toNat_natCast, List.getD_eq_getElem?_getD, List.getElem?_eq_getElem hns, Option.getD_some]
    · have e' : ¬ s[j].2[p].2.1 = 8 := e
      show (if s[j].2[p].2.1 = 8 then (s.getD s[j].2[p].2.2.2.2.toNat (0, [])).1 else 0) = 0
      rw [if_neg e']
theorem back_first {s : List RM} (h : SchemaP s) {f : Int × Int × Int} (hf : First (rawFromR s) f) : f = (0, 0, 0) := by
  have hl : (rawFromR s).length ≤ 6 := by unfold rawFromR; rw [if_pos (schema_yes h), List.length_map]; exact h.1
  exact hf.one (.inr ⟨hl, .inl ⟨back_all h, rfl⟩⟩)
theorem first_all {r : List RM} (h : First r (0, 0, 0)) : r.length ≤ 6 ∧ AllB r r.length := by
  rcases h with ⟨_, e⟩ | ⟨h0, ⟨h, _⟩ | ⟨i, hi, _, hc, e⟩ | ⟨i, q, hi, _, _, _, _, hc, e⟩⟩
  · cases e
  · exact ⟨h0, h⟩
  · exact absurd (Prod.mk.inj e).1.symm hc
  · exact absurd (Prod.mk.inj e).1.symm hc
end Go.Proofs.YthjnpipincpkgaaGreatDoor.Num
