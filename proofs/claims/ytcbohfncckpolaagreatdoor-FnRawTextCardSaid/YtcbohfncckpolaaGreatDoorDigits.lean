/-
  The walk of impl.Digits: a minus sign where the number is negative, then the shortest decimal numeral of its amount; only new memory is written.
-/
import Derived.Test.YtcbohfncckpolaaGreatDoorSpecDigits
import Derived.Test.YtcbohfncckpolaaGreatDoorFmtU
namespace Go.Proofs.YtcbohfncckpolaaGreatDoor.Num
open Go.RowKit Go.Proofs

theorem itoa_intDec (n : Int) : Go.Lib.itoa n = intDec n := by
  unfold Go.Lib.itoa intDec
  split
  · rw [decDigits_dec]
  · rw [decDigits_dec]; congr 1; omega

theorem implDigits_any (n : Int) (w : World) (h1 : -9223372036854775808 ≤ n) (h2 : n ≤ 9223372036854775807) (htab : Go.Lib.TabIs Tryz.prog w "internal/strconv.uint64pow10" .u64 Go.Lib.pow10Tab) :
    Calls Tryz.prog 40 #[.int .i64 n] w fun e w' => e = .returned (.string ⟨(intDec n).toArray⟩) ∧ Below w.heap.size w w' := by
  go_enter Tryz.func40, Tryz.ntmps40
  go_wp2_with fail
  refine (Tryz.strconv_Itoa n h1 h2 _ htab).mono ?_
  rintro e w1 ⟨rfl, k, os, rfl⟩
  rw [itoa_intDec]
  go_wp2_with fail
  go_ret
  exact ⟨rfl, below_grow w k os⟩
end Go.Proofs.YtcbohfncckpolaaGreatDoor.Num
