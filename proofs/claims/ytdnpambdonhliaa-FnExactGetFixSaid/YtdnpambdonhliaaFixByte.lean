/-
  The walk of the program's FixByte: it gives what the reference's gives; only new memory is written.
-/
import Derived.Test.YtdnpambdonhliaaScanImpl
namespace Go.Proofs.Ytdnpambdonhliaa.Num
open Go.RowKit Go.Proofs
theorem fixWrap (b k X : Nat) (hX : X ≤ 255) : IntKind.u64.wrap ((b : Int) + IntKind.u64.wrap (IntKind.u64.wrap (X : Int) * 2 ^ (8 * k))) = IntKind.u64.wrap ((b : Int) + IntKind.u64.wrap ((X : Int) * 2 ^ (8 * k))) := by
  rw [show IntKind.u64.wrap (X : Int) = (X : Int) by rw [IntKind.wrap_u64]; omega]
theorem implIsByte_yes (x : Int) (hx : 0 ≤ x ∧ x ≤ 255) (w : World) : Calls Try.prog 47 #[.int .i64 x] w fun e w' => e = .returned (.bool true) ∧ w = w' :=
  (implIsByte_any x w).mono fun e w' ⟨he, hw⟩ => ⟨by rw [he, decide_eq_true hx], hw⟩
theorem implIsByte_no (x : Int) (hx : ¬ (0 ≤ x ∧ x ≤ 255)) (w : World) : Calls Try.prog 47 #[.int .i64 x] w fun e w' => e = .returned (.bool false) ∧ w = w' :=
  (implIsByte_any x w).mono fun e w' ⟨he, hw⟩ => ⟨by rw [he, decide_eq_false hx], hw⟩
set_option maxHeartbeats 1000000 in
set_option maxRecDepth 100000 in
theorem implFixByte_any (b : Nat) (h x : Int) (w : World) :
    Calls Try.prog 30 #[scV b h, .int .i64 x] w fun e w' => e = .returned (.agg #[.int .u64 (fixByteR b h x).1, .int .i64 (fixByteR b h x).2]) ∧ Below w.heap.size w w' := by
  unfold scV
  generalize hR : fixByteR b h x = R
  have HR := Lib.hid hR; clear hR
  by_cases h7 : 0 ≤ h ∧ h ≤ 7
  · obtain ⟨k, rfl⟩ := Int.eq_ofNat_of_zero_le h7.1
    have hk : k ≤ 7 := by omega
    have h0d : decide ((k : Int) < 0) = false := decide_eq_false (by omega)
    have h7d : decide ((7 : Int) < (k : Int)) = false := decide_eq_false (by omega)
    by_cases hx : 0 ≤ x ∧ x ≤ 255
    · have Hx := Lib.hid hx
      obtain ⟨X, rfl⟩ := Int.eq_ofNat_of_zero_le hx.1
      have hX : X ≤ 255 := by omega
      have Hw := Lib.hid (fixWrap b k X hX)
      obtain rfl : R = (IntKind.u64.wrap ((b : Int) + IntKind.u64.wrap ((X : Int) * 2 ^ (8 * k))), (k : Int) + 1) := by
        rw [← HR.out]; unfold fixByteR; rw [if_pos ⟨h7, hx⟩, Int.toNat_natCast]
      clear h7 hx
      go_enter Try.func30, Try.ntmps30
      go_wp2_with fail
      refine (implIsByte_yes _ Hx.out _).mono ?_
      rintro e w3 ⟨rfl, rfl⟩
      go_wp2_with fail
      go_region
      go_wp2_with fail
      refine bodyPost_ret (v := .agg #[.int .u64 (IntKind.u64.wrap ((b : Int) + IntKind.u64.wrap ((X : Int) * 2 ^ (8 * k)))), .int .i64 ((k : Int) + 1)]) (by simp [results, Try.results30, go_sem]) rfl ⟨rfl, ?_⟩
      repeat (first | exact Below.refl _ _ | refine Below.drew ?_ | refine Below.setCell ?_ (by simp) _ | refine Below.alloc ?_ (by simp <;> omega) _)
    · have Hx := Lib.hid hx
      obtain rfl : R = ((b : Int), (k : Int)) := by rw [← HR.out]; exact fixByteR_no (fun h => hx h.2)
      clear hx
      go_enter Try.func30, Try.ntmps30
      go_wp2_with fail
      refine (implIsByte_no _ Hx.out _).mono ?_
      rintro e w3 ⟨rfl, rfl⟩
      go_wp2_with fail
      refine bodyPost_ret (v := .agg #[.int .u64 b, .int .i64 k]) (by simp [results, Try.results30, go_sem]) rfl ⟨rfl, ?_⟩
      repeat (first | exact Below.refl _ _ | refine Below.drew ?_ | refine Below.setCell ?_ (by simp) _ | refine Below.alloc ?_ (by simp <;> omega) _)
  · obtain rfl : R = ((b : Int), h) := by rw [← HR.out]; exact fixByteR_no (fun h => h7 h.1)
    by_cases h0 : h < 0
    · go_enter Try.func30, Try.ntmps30
      go_wp2_with fail
      refine bodyPost_ret (v := .agg #[.int .u64 b, .int .i64 h]) (by simp [results, Try.results30, go_sem]) rfl ⟨rfl, ?_⟩
      repeat (first | exact Below.refl _ _ | refine Below.drew ?_ | refine Below.setCell ?_ (by simp) _ | refine Below.alloc ?_ (by simp <;> omega) _)
    · have h7' : 7 < h := by omega
      have h0d : decide (h < 0) = false := decide_eq_false h0
      go_enter Try.func30, Try.ntmps30
      go_wp2_with fail
      refine bodyPost_ret (v := .agg #[.int .u64 b, .int .i64 h]) (by simp [results, Try.results30, go_sem]) rfl ⟨rfl, ?_⟩
      repeat (first | exact Below.refl _ _ | refine Below.drew ?_ | refine Below.setCell ?_ (by simp) _ | refine Below.alloc ?_ (by simp <;> omega) _)
end Go.Proofs.Ytdnpambdonhliaa.Num
