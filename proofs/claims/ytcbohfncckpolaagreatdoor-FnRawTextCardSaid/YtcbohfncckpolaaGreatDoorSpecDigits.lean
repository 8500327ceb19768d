/-
  The walk of spec.Digits: a minus sign where the number is negative, then the shortest decimal numeral of its amount; only new memory is written.
-/
import Derived.Test.YtcbohfncckpolaaGreatDoorConv1
import Derived.Test.YtcbohfncckpolaaGreatDoorNumMath
import Derived.Below
import Derived.LoopTactic
import Derived.WalkLawsBesides
import Derived.WalkSpells
import Derived.Outline
namespace Go.Proofs.YtcbohfncckpolaaGreatDoor.Num
open Go.RowKit Go.Proofs

def decO (m : Nat) : List UInt8 := if m = 0 then [] else dec m
theorem decO_zero : decO 0 = [] := rfl
theorem decO_pos {m : Nat} (h : 1 ≤ m) : decO m = dec m := by unfold decO; rw [if_neg (by omega)]
theorem decO_step {m : Nat} (h : 1 ≤ m) : decO m = decO (m / 10) ++ [dgt (m % 10)] := by
  by_cases h9 : m ≤ 9
  · rw [decO_pos h, dec_small h9, show m / 10 = 0 by omega, decO_zero, show m % 10 = m by omega]; rfl
  · rw [decO_pos h, decO_pos (by omega), dec_big (by omega)]
def intDec (n : Int) : List UInt8 := if n < 0 then 45 :: dec n.natAbs else dec n.natAbs
theorem specDigits_zero (w : World) :
    Calls Tryz.prog 51 #[.int .i64 0] w fun e w' => e = .returned (.string ⟨#[48]⟩) ∧ Below w.heap.size w w' := by
  go_enter Tryz.func51, Tryz.ntmps51
  go_wp2_with fail
  go_ret
  exact ⟨rfl, Below.refl _ _⟩
set_option maxHeartbeats 400000 in
theorem specDigits_pos (N : Nat) (w : World) (h1 : 1 ≤ N) (h2 : N ≤ 9223372036854775807) :
    Calls Tryz.prog 51 #[.int .i64 N] w fun e w' => e = .returned (.string ⟨(dec N).toArray⟩) ∧ Below w.heap.size w w' := by
  have hcv := conv1
  have hN : ((N : Int) == 0) = false := by rw [beq_eq_false_iff_ne]; omega
  have hdl : (dec N).length ≤ 20 := dec_len64 (by omega)
  have Hdl := Lib.hid hdl; clear hdl
  go_enter Tryz.func51, Tryz.ntmps51
  go_wp2_with fail
  go_loopw [0, 4] (fun x o wr => ∃ (v : Nat) (l : List UInt8), v ≤ N ∧ x = .int .i64 v ∧ o = .string ⟨l.toArray⟩ ∧ Hid (dec N = decO v ++ l) ∧ Below w.heap.size w wr) (fun x _ _ => (intOf x).toNat)
  case atStart => exact ⟨N, [], Nat.le_refl _, rfl, rfl, Lib.hid (by rw [decO_pos h1]; simp), Below.refl _ _⟩
  case round =>
    obtain ⟨v, l, hv, rfl, rfl, Hd, hb⟩ := hrel
    have hl : l.length ≤ 20 := by
      have h := Hdl.out
      rw [Hd.out, List.length_append] at h; omega
    by_cases hz : v = 0
    · subst hz
      go_wp2_with fail
      go_ret
      exact ⟨by rw [Hd.out, decO_zero]; rfl, hb⟩
    · have hvz : ((v : Int) == 0) = false := by rw [beq_eq_false_iff_ne]; omega
      have hvz2 : ((v : Int) != 0) = true := by rw [bne_iff_ne]; omega
      have hv1 : 1 ≤ v := by omega
      clear hz
      go_wp2_with fail
      go_roundw
      case rel =>
        refine ⟨v / 10, dgt (v % 10) :: l, by omega, by go_num, ?_, Lib.hid ?_, hb.alloc (hb.size) _⟩
        · rw [dgt_eq]; rfl
        · rw [Hd.out, decO_step hv1]; simp
      case measure => simp [intOf]; omega
set_option maxHeartbeats 400000 in
theorem specDigits_neg (N : Nat) (w : World) (h1 : 1 ≤ N) (h2 : N ≤ 9223372036854775808) :
    Calls Tryz.prog 51 #[.int .i64 (-(N : Int))] w fun e w' => e = .returned (.string ⟨(45 :: dec N).toArray⟩) ∧ Below w.heap.size w w' := by
  have hcv := conv1
  have hN : (-(N : Int) == 0) = false := by rw [beq_eq_false_iff_ne]; omega
  have hN1 : -(N : Int) < 0 := by omega
  have hdl : (dec N).length ≤ 20 := dec_len64 (by omega)
  have Hdl := Lib.hid hdl; clear hdl
  go_enter Tryz.func51, Tryz.ntmps51
  go_wp2_with fail
  go_loopw [0, 4] (fun x o wr => ∃ (v : Nat) (l : List UInt8), v ≤ N ∧ x = .int .i64 (-(v : Int)) ∧ o = .string ⟨l.toArray⟩ ∧ Hid (dec N = decO v ++ l) ∧ Below w.heap.size w wr) (fun x _ _ => (-(intOf x)).toNat)
  case atStart => exact ⟨N, [], Nat.le_refl _, rfl, rfl, Lib.hid (by rw [decO_pos h1]; simp), Below.refl _ _⟩
  case round =>
    obtain ⟨v, l, hv, rfl, rfl, Hd, hb⟩ := hrel
    have hl : l.length ≤ 20 := by
      have h := Hdl.out
      rw [Hd.out, List.length_append] at h; omega
    by_cases hz : v = 0
    · subst hz
      go_wp2_with fail
      go_ret
      exact ⟨by rw [Hd.out, decO_zero]; rfl, hb⟩
    · have hvz : (-(v : Int) == 0) = false := by rw [beq_eq_false_iff_ne]; omega
      have hvz2 : (-(v : Int) != 0) = true := by rw [bne_iff_ne]; omega
      have hv1 : 1 ≤ v := by omega
      clear hz
      go_wp2_with fail
      · have hm : 0 < (v : Int) % 10 := by assumption
        clear hm
        go_roundw
        case rel =>
          refine ⟨v / 10, dgt (v % 10) :: l, by omega, by go_num, ?_, Lib.hid ?_, hb.alloc (hb.size) _⟩
          · rw [dgt_eq]; rfl
          · rw [Hd.out, decO_step hv1]; simp
        case measure => simp [intOf]; omega
      · have hm : (v : Int) % 10 ≤ 0 := by assumption
        go_roundw
        case rel =>
          refine ⟨v / 10, dgt (v % 10) :: l, by omega, by go_num, ?_, Lib.hid ?_, hb.alloc (hb.size) _⟩
          · have e : (48 + -((v : Int) % 10)).toNat = 48 + v % 10 := by omega
            rw [e]; rfl
          · rw [Hd.out, decO_step hv1]; simp
        case measure => simp [intOf]; omega
theorem specDigits_any (n : Int) (w : World) (h1 : -9223372036854775808 ≤ n) (h2 : n ≤ 9223372036854775807) :
    Calls Tryz.prog 51 #[.int .i64 n] w fun e w' => e = .returned (.string ⟨(intDec n).toArray⟩) ∧ Below w.heap.size w w' := by
  by_cases hn : n < 0
  · obtain ⟨N, rfl⟩ : ∃ N : Nat, n = -(N : Int) := ⟨n.natAbs, by omega⟩
    have e : intDec (-(N : Int)) = 45 :: dec N := by unfold intDec; rw [if_pos hn]; congr 2; omega
    rw [e]
    exact specDigits_neg N w (by omega) (by omega)
  · obtain ⟨N, rfl⟩ : ∃ N : Nat, n = (N : Int) := ⟨n.natAbs, by omega⟩
    have e : intDec (N : Int) = dec N := by unfold intDec; rw [if_neg hn]; congr 1
    rw [e]
    by_cases h0 : N = 0
    · subst h0
      exact specDigits_zero w
    · exact specDigits_pos N w (by omega) (by omega)
end Go.Proofs.YtcbohfncckpolaaGreatDoor.Num
