/-
  The walks of both FrameOf: the length ahead of the body; only new memory is written.
-/
import Derived.Test.YtpkofbdfnbpfpaaVarImpl
namespace Go.Proofs.Ytpkofbdfnbpfpaa.Num
open Go.RowKit Go.Proofs
set_option linter.unusedVariables false
def frameS (t : ByteArray) : ByteArray := varS t.size ++ t
theorem frameS_bound (u : Nat) (hu : u ≤ 18446744073709551615) : (varS u).size ≤ 10 := by
  have h := Var.varLen_64 hu
  unfold varS ByteArray.size; simp only [List.size_toArray, Var.put_length]; exact h
theorem specFrameOf_any (t : ByteArray) (w : World) (ht : t.size ≤ 1048576) :
    Calls Try.prog 4 #[.string t] w fun e w' => e = .returned (.string (frameS t)) ∧ Below w.heap.size w w' := by
  have hw : IntKind.u64.wrap (t.size : Int) = (t.size : Int) := by rw [IntKind.wrap_u64]; omega
  have hv := frameS_bound t.size (by omega)
  have HP := Lib.hid (fun w => specPutVar_any t.size w (by omega))
  unfold frameS
  generalize varS t.size = v at HP hv ⊢
  go_enter Try.func4, Try.ntmps4
  go_wp2_with fail
  refine (HP.out _).mono ?_
  rintro e w1 ⟨rfl, hb1⟩
  go_wp2_with fail
  go_ret
  exact ⟨rfl, hb1⟩
theorem implFrameOf_any (t : ByteArray) (w : World) (ht : t.size ≤ 1048576) :
    Calls Try.prog 5 #[.string t] w fun e w' => e = .returned (.string (frameS t)) ∧ Below w.heap.size w w' := by
  have hw : IntKind.u64.wrap (t.size : Int) = (t.size : Int) := by rw [IntKind.wrap_u64]; omega
  have hv := frameS_bound t.size (by omega)
  have HP := Lib.hid (fun w => implPutVar_any t.size w (by omega))
  unfold frameS
  generalize varS t.size = v at HP hv ⊢
  go_enter Try.func5, Try.ntmps5
  go_wp2_with fail
  refine (HP.out _).mono ?_
  rintro e w1 ⟨rfl, hb1⟩
  go_wp2_with fail
  go_ret
  exact ⟨rfl, hb1⟩
end Go.Proofs.Ytpkofbdfnbpfpaa.Num
