/-
  The table of kinds looked up at a word: its kind, or 0.
-/
import Derived.Test.YtcbohfncckpolaaDoorKindMap
import Derived.Test.YtcbohfncckpolaaDoorTextRead
import Derived.Maps.Views
namespace Go.Proofs.YtcbohfncckpolaaDoor.Num
open Go.RowKit Go.Proofs Go Go.WideMaps
set_option linter.unusedVariables false

theorem kd_look (s : List UInt8) : KD.atKey (.string s) (.lit (.int .i64 0)) = .lit (.int .i64 (kindTo s 0 8)) := by
  by_cases h : ∃ k : Int, (1 ≤ k ∧ k ≤ 8) ∧ s = wordL k
  · obtain ⟨k, hk, rfl⟩ := h
    rw [kindTo_word hk]
    exact kd_at hk
  · rw [kindTo_none (fun k hk e => h ⟨k, hk, e⟩) 0 8 (Nat.le_refl _)]
    refine Maps.atKey_of_not_has ?_ _
    cases hh : Maps.has KD (.string s) with
    | false => rfl
    | true =>
      obtain ⟨k, hk, e⟩ := kd_key hh
      injection e with e
      exact absurd ⟨k, hk, e⟩ h
set_option maxRecDepth 100000 in
theorem kd_run (s : ByteArray) (hs : s.size ≤ maxLen) {w : World} {b : Nat} (hown : w.ownsMap Tryd.prog 9 (plainElem Tryd.prog 3) b 8 KD) :
    (Instr.lookup 77 (.map (some b)) (.string s) false).run Tryd.prog w = .ok (.int .i64 (kindTo s.data.toList 0 8)) w := by
  obtain ⟨c, hr, hat, _⟩ := hown.lookup_int lawW Tryd.underlying77 Tryd.underlying3 (by kernel_rfl) (keyOf_string_mk Tryd.underlying9 hs)
  rw [kd_look] at hat
  injection hat with hat
  injection hat with _ hat
  rw [hr, hat]
end Go.Proofs.YtcbohfncckpolaaDoor.Num
