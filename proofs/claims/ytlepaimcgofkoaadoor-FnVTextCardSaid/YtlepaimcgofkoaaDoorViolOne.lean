/-
  Different violations with a code from 1 to 9 have different texts. Plain lists, no program.
-/
import Derived.Test.YtlepaimcgofkoaaDoorViolText
namespace Go.Proofs.YtlepaimcgofkoaaDoor.Num
set_option linter.unusedVariables false

/-- Cut at the first space. -/
theorem cut_one {a b x y : List UInt8} (ha : 32 ∉ a) (hb : 32 ∉ b) (h : a ++ [32] ++ x = b ++ [32] ++ y) : a = b ∧ x = y := by
  induction a generalizing b with
  | nil =>
    cases b with
    | nil => simp at h; exact ⟨rfl, h⟩
    | cons c r => simp at h; exact absurd h.1 (by rintro rfl; simp at hb)
  | cons c r ih =>
    cases b with
    | nil => simp at h; exact absurd h.1 (by rintro rfl; simp at ha)
    | cons d s =>
      simp at h ha hb
      obtain ⟨rfl, h⟩ := h
      obtain ⟨rfl, rfl⟩ := ih ha.2 hb.2 (by simpa using h)
      exact ⟨rfl, rfl⟩
theorem dec_no {u : Nat} : (32 : UInt8) ∉ dec u := by
  intro h
  have := List.all_eq_true.1 (dec_all u) _ h
  revert this; decide
theorem dec_no45 {u : Nat} : (45 : UInt8) ∉ dec u := by
  intro h
  have := List.all_eq_true.1 (dec_all u) _ h
  revert this; decide
theorem intDec_no {n : Int} : (32 : UInt8) ∉ intDec n := by
  unfold intDec
  split
  · simp [dec_no]
  · exact dec_no
theorem dec_inj {u v : Nat} (h : dec u = dec v) : u = v := by rw [← val_dec u, h, val_dec]
theorem intDec_inj {n m : Int} (h : intDec n = intDec m) : n = m := by
  unfold intDec at h
  split at h
  · split at h
    · have := dec_inj (by simpa using h); omega
    · exact absurd (show (45 : UInt8) ∈ dec m.natAbs by rw [← h]; simp) dec_no45
  · split at h
    · exact absurd (show (45 : UInt8) ∈ dec n.natAbs by rw [h]; simp) dec_no45
    · have := dec_inj h; omega
theorem wordV_no32 (c : Int) : (32 : UInt8) ∉ wordV c := by
  unfold wordV
  repeat' split
  all_goals decide
theorem wordV_inj {c d : Int} (hc : 1 ≤ c ∧ c ≤ 9) (hd : 1 ≤ d ∧ d ≤ 9) (h : wordV c = wordV d) : c = d := by
  have h1 : c = 1 ∨ c = 2 ∨ c = 3 ∨ c = 4 ∨ c = 5 ∨ c = 6 ∨ c = 7 ∨ c = 8 ∨ c = 9 := by omega
  have h2 : d = 1 ∨ d = 2 ∨ d = 3 ∨ d = 4 ∨ d = 5 ∨ d = 6 ∨ d = 7 ∨ d = 8 ∨ d = 9 := by omega
  rcases h1 with rfl | rfl | rfl | rfl | rfl | rfl | rfl | rfl | rfl <;> rcases h2 with rfl | rfl | rfl | rfl | rfl | rfl | rfl | rfl | rfl <;> first | rfl | (exact absurd h (by decide))
theorem viol_one {c m f d n g : Int} (hc : 1 ≤ c ∧ c ≤ 9) (hd : 1 ≤ d ∧ d ≤ 9) (h : violText c m f = violText d n g) : c = d ∧ m = n ∧ f = g := by
  unfold violText at h
  rw [if_neg (by omega), if_neg (by omega)] at h
  have h' : wordV c ++ [32] ++ (intDec m ++ [32] ++ intDec f) = wordV d ++ [32] ++ (intDec n ++ [32] ++ intDec g) := by simpa using h
  obtain ⟨e1, e2⟩ := cut_one (wordV_no32 c) (wordV_no32 d) h'
  obtain ⟨e3, e4⟩ := cut_one intDec_no intDec_no e2
  exact ⟨wordV_inj hc hd e1, intDec_inj e3, intDec_inj e4⟩
end Go.Proofs.YtlepaimcgofkoaaDoor.Num
