/-
  The walk of the reference's l1Once: some bool; of what was there only the cursor's block is written.
-/
import Derived.Test.YtpkofbdfnbpfpaaGreatDraw
namespace Go.Proofs.YtpkofbdfnbpfpaaGreat.Num
open Go.RowKit Go.Proofs

theorem l1Once_any (B g : Nat) (a : Option Addr) (len cap : Nat) (n : Int) (w : World) (h : Cur w B g a len cap) (hn : n ≤ 9223372036854775807) :
    Calls Tryz.prog 70 #[.pointer (some ⟨g, 0, none⟩), .int .i64 n] w fun e w' => ∃ b : Bool, e = .returned (.bool b) ∧ Cur w' B g a len cap ∧ Only g w w' := by
  go_enter Tryz.func70, Tryz.ntmps70
  go_wp2_with fail
  refine (l1Below_any B g a len cap _ _ h hn).mono ?_
  rintro e w1 ⟨r, r0, r1, rfl, hc1, ho1⟩
  have Hc1 := Lib.hid hc1; clear hc1
  clear r1
  go_wp2_with fail
  go_ret
  exact ⟨_, rfl, Hc1.out, ho1⟩
end Go.Proofs.YtpkofbdfnbpfpaaGreat.Num
