/-
  Small facts for texts that are put together: sums of byte lists, the bounds of an int, the length of its numeral. For any program.
-/
import Derived.Test.YtcbohfncckpolaaGreatDoorSpecDigits
import Derived.Laws.Concat
namespace Go.Proofs.YtcbohfncckpolaaGreatDoor.Num
open Go.RowKit Go.Proofs
theorem bytesApp (a b : List UInt8) : (⟨a.toArray⟩ : ByteArray) ++ (⟨b.toArray⟩ : ByteArray) = ⟨(a ++ b).toArray⟩ := by
  ext1; simp
def I64 (x : Int) : Prop := -9223372036854775808 ≤ x ∧ x ≤ 9223372036854775807
theorem intDec_len20 {n : Int} (h : I64 n) : (intDec n).length ≤ 21 := by
  have := dec_len64 (u := n.natAbs) (by unfold I64 at h; omega)
  unfold intDec
  split
  · simp; omega
  · omega
theorem intDec_nat (u : Nat) : intDec (u : Int) = dec u := by unfold intDec; rw [if_neg (by omega)]; congr 1
theorem sum_run {a b : List UInt8} {A B C : ByteArray} (ha : A = ⟨a.toArray⟩) (hb : B = ⟨b.toArray⟩) (hc : C = ⟨(a ++ b).toArray⟩) (h : a.length + b.length ≤ 1048576) (w : World) : (Op.stringOp .add A B).run Tryz.prog w = .ok (.string C) w := by
  subst ha hb hc
  rw [← bytesApp]
  exact run_string_add_sum _ _ _ (by simp [ByteArray.size]; omega)
end Go.Proofs.YtcbohfncckpolaaGreatDoor.Num
