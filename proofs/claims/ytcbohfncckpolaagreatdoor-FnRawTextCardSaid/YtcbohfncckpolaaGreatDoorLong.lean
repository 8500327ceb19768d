/-
  The walk of spec.Long: it returns the shortest decimal numeral; only new memory is written.
-/
import Derived.Test.YtcbohfncckpolaaGreatDoorNumWalk
import Derived.Test.YtcbohfncckpolaaGreatDoorConv1
import Derived.Laws.BytesArg
import Derived.Laws.IdiomStrings
namespace Go.Proofs.YtcbohfncckpolaaGreatDoor.Num
open Go.RowKit Go.Proofs

theorem long_any (u : Nat) (w : World) (hu : u ≤ 18446744073709551615) :
    Calls Tryz.prog 76 #[.int .u64 u] w fun e w' => e = .returned (.string ⟨(dec u).toArray⟩) ∧ Below w.heap.size w w' := by
  have hcv := conv1
  go_enter Tryz.func76, Tryz.ntmps76
  go_wp2_with fail
  go_loopw [0, 3] (fun x o wr => ∃ (v : Nat) (l : List UInt8), v ≤ u ∧ x = .int .u64 v ∧ o = .string ⟨l.toArray⟩ ∧ dec u = dec v ++ l ∧ Below w.heap.size w wr) (fun x _ _ => (intOf x).toNat)
  case atStart => exact ⟨u, [], Nat.le_refl _, rfl, rfl, by simp, Below.refl _ _⟩
  case round =>
    obtain ⟨v, l, hv, rfl, rfl, hd, hb⟩ := hrel
    have hl : l.length ≤ 20 := by
      have h := dec_len64 hu
      rw [hd, List.length_append] at h; omega
    have Hd := Lib.hid hd; clear hd
    by_cases hlt : 9 < v
    · go_wp2_with fail
      go_roundw
      case rel =>
        refine ⟨v / 10, dgt (v % 10) :: l, by omega, by go_num, ?_, ?_, hb.alloc (hb.size) _⟩
        · rw [dgt_eq]; rfl
        · rw [Hd.out, dec_big hlt]; simp
      case measure => simp [intOf]; omega
    · go_wp2_with fail
      go_ret
      refine ⟨?_, hb.alloc hb.size _⟩
      rw [Hd.out, dec_small (by omega), dgt_eq]; rfl
end Go.Proofs.YtcbohfncckpolaaGreatDoor.Num
