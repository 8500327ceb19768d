/-
  The walks of the program's Terminal, Many and SameEvents (slices.Equal at events).
-/
import Derived.Test.YtbjndnpdmohjiaaDoorEvSame
namespace Go.Proofs.YtbjndnpdmohjiaaDoor.Num
open Go.RowKit Go.Proofs
set_option linter.unusedVariables false
set_option linter.unusedSimpArgs false

theorem implTerminal_any (e : Ev) (w : World) : Calls Tryd.prog 11 #[evV e] w fun x w' => x = .returned (.bool (termB e)) ∧ Below w.heap.size w w' := by
  obtain ⟨k, f, b, l, t, c, p⟩ := e
  unfold evV
  simp only
  by_cases h1 : k = 9
  · subst h1
    go_enter Tryd.func11, Tryd.ntmps11
    go_wp2_with fail
    go_ret
    exact ⟨rfl, (Below.refl _ _).alloc (Nat.le_refl _) _⟩
  · have e1 := neI h1
    by_cases h2 : k = 10
    · subst h2
      go_enter Tryd.func11, Tryd.ntmps11
      go_wp2_with fail
      go_ret
      exact ⟨rfl, (Below.refl _ _).alloc (Nat.le_refl _) _⟩
    · have e2 := neI h2
      have hr : termB ⟨k, f, b, l, t, c, p⟩ = false := decide_eq_false (by simp only; omega)
      rw [hr]
      clear hr h1 h2
      go_enter Tryd.func11, Tryd.ntmps11
      go_wp2_with fail
      go_ret
      exact ⟨rfl, (Below.refl _ _).alloc (Nat.le_refl _) _⟩
end Go.Proofs.YtbjndnpdmohjiaaDoor.Num
