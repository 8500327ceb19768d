/-
  The walk of the laws' at0: some byte of the code, or some number below 256; nothing is written.
-/
import Derived.Test.YteplmjlllnbiiaaDraw
namespace Go.Proofs.Yteplmjlllnbiiaa.Num
open Go.RowKit Go.Proofs
set_option linter.unusedVariables false
theorem at0_any (a : Option Addr) (len cap B i : Nat) (w : World) (h : CodeAt w B a len) (hi : i ≤ 1048576) :
    Calls Try.prog 24 #[.slice a len cap, .int .i64 i] w fun e w' => ∃ r : Nat, r ≤ 255 ∧ e = .returned (.int .i64 r) ∧ w = w' := by
  have hlen := h.1
  by_cases hlt : i < len
  · have hlti : (i : Int) < (len : Int) := by omega
    rcases h.2 with h0 | ⟨b, off, rfl, hb, hc⟩
    · omega
    · obtain ⟨z, hz, hcz⟩ := hc i hlt
      clear hc h
      go_enter Try.func24, Try.ntmps24
      go_wp2_with fail
      go_ret
      exact ⟨z, by omega, rfl, rfl⟩
  · have hge : (len : Int) ≤ (i : Int) := by omega
    have hend : decide (i < len) = false := decide_eq_false hlt
    clear h
    go_enter Try.func24, Try.ntmps24
    go_wp2_with fail
    go_ret
    exact ⟨((i : Int) * 7 + (len : Int)).toNat % 256, by omega, by congr 2, rfl⟩
end Go.Proofs.Yteplmjlllnbiiaa.Num
