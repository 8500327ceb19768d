/-
  The walk of the laws' markText: the mark of a number; only new memory is written.
-/
import Derived.Test.YteplmjlllnbiiaaNumMath
import Derived.Test.YteplmjlllnbiiaaConv1
import Derived.Test.YteplmjlllnbiiaaBytes
import Derived.Test.YteplmjlllnbiiaaDraw
import Derived.Deep.RegionWith
import Derived.Deep.DrawnRows
namespace Go.Proofs.Yteplmjlllnbiiaa.Num
open Go.RowKit Go.Proofs
set_option linter.unusedVariables false
attribute [local go_sem ↓] Go.wp_at_zero Go.wp_at_succ

def markB (k : Nat) : ByteArray := ⟨(109 :: dec k).toArray⟩
set_option maxHeartbeats 400000 in
theorem markText_any (k : Nat) (w : World) (h1 : 1 ≤ k) (h2 : k ≤ 9223372036854775807) :
    Calls Try.prog 50 #[.int .i64 k] w fun e w' => e = .returned (.string (markB k)) ∧ Below w.heap.size w w' := by
  have hcv := conv1
  have hdl : (dec k).length ≤ 20 := dec_len64 (by omega)
  have Hdl := Lib.hid hdl; clear hdl
  go_enter Try.func50, Try.ntmps50
  go_wp2_with fail
  go_loopw [0, 3] (fun x o wr => ∃ (v : Nat) (l : List UInt8), v ≤ k ∧ x = .int .i64 v ∧ o = .string ⟨l.toArray⟩ ∧ Hid (dec k = decZ v ++ l) ∧ Below w.heap.size w wr) (fun x _ _ => (intOf x).toNat)
  case atStart => exact ⟨k, [], Nat.le_refl _, rfl, rfl, Lib.hid (by rw [decZ_pos h1]; simp), Below.refl _ _⟩
  case round =>
    obtain ⟨v, l, hv, rfl, rfl, Hd, hb⟩ := hrel
    have hl : l.length ≤ 20 := by
      have h := Hdl.out
      rw [Hd.out, List.length_append] at h; omega
    by_cases hz : 0 < v
    · go_wp2_with fail
      go_roundw
      case rel =>
        refine ⟨v / 10, dgt (v % 10) :: l, by omega, by go_num, ?_, Lib.hid ?_, hb.alloc (hb.size) _⟩
        · rw [dgt_eq]; rfl
        · rw [Hd.out, decZ_step hz]; simp
      case measure => simp [intOf]; omega
    · have hv0 : v = 0 := by omega
      have Hv := Lib.hid hv0
      clear hv0
      go_wp2_with fail
      go_ret
      exact ⟨by unfold markB; rw [Hd.out, Hv.out, decZ_zero]; rfl, hb⟩
end Go.Proofs.Yteplmjlllnbiiaa.Num
