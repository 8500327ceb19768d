/-
  The walks of the laws' tail (a code without its first byte) and of the reference's draw of a violation; only new memory is written.
-/
import Derived.Test.YtbjndnpdmohjiaaDoorDraw
import Derived.Test.YtbjndnpdmohjiaaDoorBox
namespace Go.Proofs.YtbjndnpdmohjiaaDoor.Num
open Go.RowKit Go.Proofs
set_option linter.unusedVariables false

theorem tail_any (B : Nat) (a : Option Addr) (len cap : Nat) (w : World) (h : CodeAt w B a len) (hc : len ≤ cap) :
    Calls Tryd.prog 14 #[.slice a len cap] w fun e w' => ∃ a' len' cap', e = .returned (.slice a' len' cap') ∧ CodeAt w B a' len' ∧ w = w' := by
  have hl := h.1
  have H := Lib.hid h
  clear h
  by_cases h0 : len = 0
  · subst h0
    go_enter Tryd.func14, Tryd.ntmps14
    go_wp2_with fail
    go_ret
    exact ⟨a, 0, cap, rfl, H.out, rfl⟩
  · obtain ⟨b, off, rfl, hb, hcs⟩ : ∃ b off, a = some ⟨b, off, none⟩ ∧ b < B ∧ ∀ j, j < len → ∃ n : Nat, n < 256 ∧ w.cell? ⟨b, off + j, none⟩ = some (.int .u8 n) := by
      rcases H.out.2 with h | h
      · exact absurd h h0
      · exact h
    have h1 : ((len : Int) == 0) = false := by rw [beq_eq_false_iff_ne]; omega
    have h2 : (len == 0) = false := by rw [beq_eq_false_iff_ne]; omega
    have h3 : 1 ≤ len := by omega
    by_cases hc1 : cap = 1
    · subst hc1
      obtain rfl : len = 1 := by omega
      have He : Hid (CodeAt w B (some ⟨b, off, none⟩) 0) := Lib.hid ⟨by omega, .inl rfl⟩
      clear hcs h0
      go_enter Tryd.func14, Tryd.ntmps14
      go_wp2_with fail
      go_ret
      exact ⟨_, 0, 0, rfl, He.out, rfl⟩
    · have Hc : Hid (CodeAt w B (some ⟨b, off + 1, none⟩) (len - 1)) := Lib.hid ⟨by omega, .inr ⟨b, off + 1, rfl, hb, fun j hj => by
        obtain ⟨n, hn, hv⟩ := hcs (j + 1) (by omega)
        exact ⟨n, hn, by rw [Nat.add_assoc, Nat.add_comm 1 j]; exact hv⟩⟩⟩
      have hc2 : cap - 1 ≠ 0 := by omega
      clear hcs h0
      go_enter Tryd.func14, Tryd.ntmps14
      go_wp2_with fail
      go_ret
      exact ⟨_, len - 1, cap - 1, rfl, Hc.out, rfl⟩
end Go.Proofs.YtbjndnpdmohjiaaDoor.Num
