/-
  The walks of the program's ScanOk, ScanByte, ScanText, FixByte and their helpers: they give what the reference's give; only new memory is written.
-/
import Derived.Test.YtcnpdcmdnmfnaaaScan
import Derived.Test.YtcnpdcmdnmfnaaaBox
import Derived.Test.YtcnpdcmdnmfnaaaVarBits
import Derived.BigRegion
import Derived.Laws.Bits128
import Derived.Deep.QuietTactic
import Derived.BigQuiet
import Derived.Laws.BitsAllLaws
import Derived.RegionTactic
import Derived.Deep.RegionHeld3
namespace Go.Proofs.Ytcnpdcmdnmfnaaa.Num
open Go.RowKit Go.Proofs
theorem pow_le9 (k : Nat) (hk : k ≤ 9) : 2 ^ (7 * k) ≤ 9223372036854775808 := Nat.le_trans (Nat.pow_le_pow_right (by omega) (show 7 * k ≤ 63 by omega)) (by decide)
theorem pow_less (k : Nat) (hk : k ≤ 9) : IntKind.u64.wrap (IntKind.u64.wrap ((2 : Int) ^ (7 * k)) - 1) = ((2 ^ (7 * k) - 1 : Nat) : Int) := by
  have h1 := pow_le9 k hk
  have h0 := Nat.two_pow_pos (7 * k)
  rw [show ((2 : Int) ^ (7 * k)) = ((2 ^ (7 * k) : Nat) : Int) by simp]
  generalize 2 ^ (7 * k) = x at h0 h1
  rw [IntKind.wrap_u64, IntKind.wrap_u64]
  omega
set_option maxRecDepth 100000 in
theorem implWithin_any (b k : Nat) (hb : b ≤ 18446744073709551615) (hk : k ≤ 9) (w : World) :
    Calls Try.prog 54 #[scV b k] w fun e w' => e = .returned (scV (b % 2 ^ (7 * k)) k) ∧ Below w.heap.size w w' := by
  unfold scV
  have Hb := Lib.hid hb; clear hb
  go_enter Try.func54, Try.ntmps54
  go_wp2_with fail
  go_region
  go_wp2_with fail
  have hp : IntKind.u64.wrap (IntKind.u64.wrap (2 ^ (7 * k)) - 1) = ((2 ^ (7 * k) - 1 : Nat) : Int) := pow_less k hk
  have hm : bits BinOp.and IntKind.u64 (b : Int) ((2 ^ (7 * k) - 1 : Nat) : Int) = ((b % 2 ^ (7 * k) : Nat) : Int) := by
    rw [u64_and_nat _ _ (by have := Hb.out; omega) (by have := pow_le9 k hk; omega), Nat.and_two_pow_sub_one_eq_mod]
  rw [hp, hm]
  exact bodyPost_ret (v := .agg #[.int .u64 ((b % 2 ^ (7 * k) : Nat) : Int), .int .i64 k]) (by simp [results, Try.results54, go_sem]) rfl ⟨rfl, (((Below.refl _ _).alloc (Nat.le_refl _) _).alloc (by simp) _).drew⟩
theorem implWithin_in (b k : Nat) (hb : b ≤ 18446744073709551615) (hk : k ≤ 9) (hl : b < 2 ^ (7 * k)) (w : World) :
    Calls Try.prog 54 #[scV b k] w fun e w' => e = .returned (scV b k) ∧ Below w.heap.size w w' :=
  (implWithin_any b k hb hk w).mono fun e w' ⟨he, hB⟩ => ⟨by rw [he, Nat.mod_eq_of_lt hl], hB⟩
theorem implWithin_out (b k : Nat) (hb : b ≤ 18446744073709551615) (hk : k ≤ 9) (hl : ¬ b < 2 ^ (7 * k)) (w : World) :
    Calls Try.prog 54 #[scV b k] w fun e w' => ∃ m : Nat, ((b : Int) == (m : Int)) = false ∧ e = .returned (scV m k) ∧ Below w.heap.size w w' :=
  (implWithin_any b k hb hk w).mono fun e w' ⟨he, hB⟩ => ⟨b % 2 ^ (7 * k), by rw [beq_eq_false_iff_ne]; have := Nat.mod_lt b (Nat.two_pow_pos (7 * k)); omega, he, hB⟩
theorem implIsByte_any (x : Int) (w : World) :
    Calls Try.prog 44 #[.int .i64 x] w fun e w' => e = .returned (.bool (decide (0 ≤ x ∧ x ≤ 255))) ∧ w = w' := by
  by_cases h1 : 0 ≤ x
  · by_cases h2 : x ≤ 255
    · go_enter Try.func44, Try.ntmps44
      go_wp2_with fail
      go_ret
      exact ⟨by simp [h1, h2], rfl⟩
    · go_enter Try.func44, Try.ntmps44
      go_wp2_with fail
      go_ret
      exact ⟨by simp [h2], rfl⟩
  · go_enter Try.func44, Try.ntmps44
    go_wp2_with fail
    go_ret
    exact ⟨by have h2 : decide (0 ≤ x) = false := decide_eq_false (by omega)
              rw [h2]; rfl, rfl⟩
set_option maxHeartbeats 1000000 in
set_option maxRecDepth 100000 in
theorem implScanOk_any (b : Nat) (h : Int) (hb : b ≤ 18446744073709551615) (w : World) :
    Calls Try.prog 43 #[scV b h] w fun e w' => e = .returned (.bool (scanOkB b h)) ∧ Below w.heap.size w w' := by
  unfold scV
  have Hb := Lib.hid hb; clear hb
  by_cases h0 : h < 0
  · have h0d : decide (0 ≤ h) = false := decide_eq_false (by omega)
    go_enter Try.func43, Try.ntmps43
    go_wp2_with fail
    go_quiet (fail)
    go_wp2_with fail
    go_ret
    exact ⟨by unfold scanOkB; rw [decide_eq_false (by omega)]; rfl, below_drewN ((Below.refl _ _).alloc (Nat.le_refl _) _) _⟩
  · obtain ⟨k, rfl⟩ := Int.eq_ofNat_of_zero_le (show 0 ≤ h by omega)
    by_cases h10 : 10 ≤ k
    · have h0d : decide ((k : Int) < 10) = false := decide_eq_false (by omega)
      go_enter Try.func43, Try.ntmps43
      go_wp2_with fail
      go_quiet (fail)
      go_wp2_with fail
      go_ret
      exact ⟨by unfold scanOkB; rw [decide_eq_false (by omega)]; rfl, below_drewN ((Below.refl _ _).alloc (Nat.le_refl _) _) _⟩
    · have h9 : k ≤ 9 := by omega
      have h9' : (k : Int) < 10 := by omega
      by_cases hlt : b < 2 ^ (7 * k)
      · have Hlt := Lib.hid hlt; clear hlt
        go_enter Try.func43, Try.ntmps43
        go_wp2_with fail
        go_region_with (go_at_call 54; refine (implWithin_in b k Hb.out h9 Hlt.out _).mono ?_; rintro e w1 ⟨rfl, hb1⟩; unfold scV; obtain ⟨hc, hf⟩ := bcell hb1)
        all_goals go_wp2_with fail
        all_goals go_ret
        all_goals exact ⟨by unfold scanOkB; rw [decide_eq_true (by omega), Int.toNat_natCast, decide_eq_true Hlt.out]; rfl, (((Below.refl _ _).alloc (Nat.le_refl _) _).drew).trans (hb1.mono (by simp))⟩
      · have Hlt := Lib.hid hlt; clear hlt
        go_enter Try.func43, Try.ntmps43
        go_wp2_with fail
        go_region_with (go_at_call 54; refine (implWithin_out b k Hb.out h9 Hlt.out _).mono ?_; rintro e w1 ⟨m, hne, rfl, hb1⟩; unfold scV; obtain ⟨hc, hf⟩ := bcell hb1)
        all_goals go_wp2_with fail
        all_goals go_ret
        all_goals exact ⟨by unfold scanOkB; rw [decide_eq_true (by omega), Int.toNat_natCast, decide_eq_false Hlt.out]; rfl, (((Below.refl _ _).alloc (Nat.le_refl _) _).drew).trans (hb1.mono (by simp))⟩
end Go.Proofs.Ytcnpdcmdnmfnaaa.Num
