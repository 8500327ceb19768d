/-
  The words that Parts gives, as a slice that is cut from the front.
-/
import Derived.Test.YtcbohfncckpolaaDoorTakeWord
import Derived.Test.YtcbohfncckpolaaDoorParts
namespace Go.Proofs.YtcbohfncckpolaaDoor.Num
open Go.RowKit Go.Proofs
set_option linter.unusedVariables false
def zeroF : RF := (0, 0, false, false, 0)
/-- The words that Parts gives, as a slice that is cut from the front. -/
theorem slS_of {w w' : World} {B : Nat} {T : TypeId} {v : Value} {P : List ByteArray} {ws : List (List UInt8)} (h : w'.ownsRow B T 1 v P.length (P.map Value.string)) (hP : strL P = ws) (h0 : ws ≠ []) :
    ∃ g cap, v = .slice (some ⟨g, 0, none⟩) ws.length cap ∧ B ≤ g ∧ SlS w' w'.heap.size (some ⟨g, 0, none⟩) ws.length cap ws := by
  have hl : ws.length = P.length := by rw [← hP]; simp [strL]
  have hp : 0 < P.length := by rw [← hl]; exact List.length_pos_iff.2 h0
  obtain ⟨l, h5⟩ := h
  rcases h5 with ⟨_, h0⟩ | ⟨g, cap, cur, rfl, hB, hg, hc, hcm, hcs, hcur⟩
  · omega
  · have hown : w'.ownsRow B T 1 (.slice (some ⟨g, 0, none⟩) P.length cap) P.length (P.map Value.string) := ⟨l, .inr ⟨g, cap, cur, rfl, hB, hg, hc, hcm, hcs, hcur⟩⟩
    refine ⟨g, cap, by rw [hl], hB, rfl, by omega, .inr ⟨g, 0, rfl, (Array.getElem?_eq_some_iff.1 hg).1, fun j hj => ?_⟩⟩
    rw [Nat.zero_add, World.ownsRow.cellAt hown j (by omega), List.getElem?_map, List.getElem?_eq_getElem (by omega)]
    subst hP
    simp [strL]
end Go.Proofs.YtcbohfncckpolaaDoor.Num
