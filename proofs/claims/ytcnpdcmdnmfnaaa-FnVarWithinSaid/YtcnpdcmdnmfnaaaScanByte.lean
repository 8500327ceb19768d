/-
  The walk of the program's ScanByte: it gives what the reference's gives; only new memory is written.
-/
import Derived.Test.YtcnpdcmdnmfnaaaScanImpl
namespace Go.Proofs.Ytcnpdcmdnmfnaaa.Num
open Go.RowKit Go.Proofs
theorem orShift3 (u k c : Nat) (hu : u < 2 ^ (7 * k)) (hk : k ≤ 8 ∨ (k = 9 ∧ c ≤ 1)) :
    bits .or .u64 (u : Int) (IntKind.u64.wrap (IntKind.u64.wrap ((c % 128 : Nat) : Int) * 2 ^ (7 * k))) = ((u + c % 128 * 2 ^ (7 * k) : Nat) : Int) := by
  have hx : u + c % 128 * 2 ^ (7 * k) ≤ 18446744073709551615 := by
    rcases hk with hk | ⟨rfl, hc⟩
    · have h1 := two7 k hk
      have h2 : c % 128 * 2 ^ (7 * k) ≤ 127 * 2 ^ (7 * k) := Nat.mul_le_mul_right _ (by omega)
      omega
    · simp only [Nat.reduceMul, Nat.reducePow] at hu ⊢
      have : c % 128 ≤ 1 := by omega
      omega
  have e0 : IntKind.u64.wrap ((c % 128 : Nat) : Int) = ((c % 128 : Nat) : Int) := by rw [IntKind.wrap_u64]; omega
  have e : ((c % 128 : Nat) : Int) * 2 ^ (7 * k) = ((c % 128 * 2 ^ (7 * k) : Nat) : Int) := by simp
  rw [e0, e, IntKind.wrap_u64, show ((c % 128 * 2 ^ (7 * k) : Nat) : Int) % 18446744073709551616 = ((c % 128 * 2 ^ (7 * k) : Nat) : Int) by omega, u64_or_nat _ _ (by omega) (by omega), Var.or_above _ _ _ hu]
set_option maxHeartbeats 1000000 in
set_option maxRecDepth 100000 in
theorem implScanByte_any (b : Nat) (h x : Int) (hb : b ≤ 18446744073709551615) (w : World) :
    Calls Try.prog 28 #[scV b h, .int .i64 x] w fun e w' => e = .returned (.tuple #[scV (scanByteR b h x).1 (scanByteR b h x).2.1, .int .i64 (scanByteR b h x).2.2]) ∧ Below w.heap.size w w' := by
  unfold scV
  have Hbb := Lib.hid hb; clear hb
  generalize hR : scanByteR b h x = R
  have HR := Lib.hid hR; clear hR
  go_enter Try.func28, Try.ntmps28
  go_wp2_with fail
  refine (implScanOk_any b h Hbb.out _).mono ?_
  rintro e w1 ⟨rfl, hb1⟩
  obtain ⟨hc, hf⟩ := bcell hb1
  have hz : w.heap.size + 1 < w1.heap.size := by have := hb1.size; simp at this; omega
  have hbw : Below w.heap.size w w1 := (((Below.refl _ _).alloc (Nat.le_refl _) _).alloc (by simp) _).trans (hb1.mono (by simp; omega))
  cases hok : scanOkB b h with
  | false =>
    obtain rfl : R = (b, h, 2) := by rw [← HR.out]; exact scanByteR_no (by simp [hok])
    go_wp2_with fail
    exact bodyPost_ret (v := .tuple #[.agg #[.int .u64 b, .int .i64 h], .int .i64 2]) (by simp [results, Try.results28, go_sem, hc]) rfl ⟨rfl, (hbw.setCell (p := ⟨w.heap.size + 1, 0, none⟩) (by simp) _).setCell (p := ⟨w.heap.size + 1, 1, none⟩) (by simp) _⟩
  | true =>
    by_cases hx : 0 ≤ x ∧ x ≤ 255
    · have hxd : decide (0 ≤ x ∧ x ≤ 255) = true := decide_eq_true hx
      unfold scanOkB at hok
      simp only [Bool.and_eq_true, decide_eq_true_iff] at hok
      obtain ⟨⟨h0, h9⟩, hb2⟩ := hok
      obtain ⟨k, rfl⟩ := Int.eq_ofNat_of_zero_le h0
      obtain ⟨X, rfl⟩ := Int.eq_ofNat_of_zero_le hx.1
      rw [Int.toNat_natCast] at hb2
      have Hb2 := Lib.hid hb2; clear hb2
      by_cases h9x : (k : Int) = 9 ∧ (1 : Int) < (X : Int)
      · obtain rfl : R = (b, (k : Int), 2) := by rw [← HR.out]; exact scanByteR_no (fun h => h.2.2 h9x)
        have h9b : ((k : Int) == 9) = true := by rw [beq_iff_eq]; exact h9x.1
        have hx1 := h9x.2
        clear h9x
        go_wp2_with fail
        refine (implIsByte_any _ _).mono ?_
        rintro e w3 ⟨rfl, rfl⟩
        go_wp2_with fail
        exact bodyPost_ret (v := .tuple #[.agg #[.int .u64 b, .int .i64 k], .int .i64 2]) (by simp [results, Try.results28, go_sem, hc]) rfl ⟨rfl, (hbw.setCell (p := ⟨w.heap.size + 1, 0, none⟩) (by simp) _).setCell (p := ⟨w.heap.size + 1, 1, none⟩) (by simp) _⟩
      · have hk : k ≤ 8 ∨ (k = 9 ∧ X ≤ 1) := by omega
        have hX : X ≤ 255 := by omega
        have Hsh := Lib.hid (orShift3 b k X Hb2.out hk)
        obtain ⟨V, hV⟩ : ∃ V : Nat, V = b + X % 128 * 2 ^ (7 * k) := ⟨_, rfl⟩
        obtain ⟨C, hC⟩ : ∃ C : Int, C = if (X : Int) < 128 then 1 else 0 := ⟨_, rfl⟩
        obtain rfl : R = (V, (k : Int) + 1, C) := by
          rw [← HR.out, hV, hC]; unfold scanByteR
          rw [if_pos ⟨by unfold scanOkB; simp only [Bool.and_eq_true, decide_eq_true_iff]; exact ⟨⟨h0, h9⟩, by rw [Int.toNat_natCast]; exact Hb2.out⟩, hx, h9x⟩]
          rw [Int.toNat_natCast, Int.toNat_natCast]
        rw [← hV] at Hsh
        have HV := Lib.hid hV; clear hV
        have HC := Lib.hid hC; clear hC
        have hz2 := hbw.size
        have Hand : Hid (bits BinOp.and IntKind.i64 (X : Int) 127 = ((X % 128 : Nat) : Int)) := Lib.hid (by rw [i64_and127]; omega)
        have h9y : ((k : Int) == 9) = true → decide ((1 : Int) < (X : Int)) = false := fun h => decide_eq_false (by intro h2; exact h9x ⟨by simpa using h, h2⟩)
        have hk9 : k ≤ 9 := by omega
        have hz0 : w.heap.size < w1.heap.size := by omega
        clear h9x hk
        cases h9b : ((k : Int) == 9)
        all_goals
          first | (have hx1 := h9y h9b) | skip
          clear h9y
          by_cases hx2 : (X : Int) < 128
          · obtain rfl : C = 1 := by rw [HC.out, if_pos hx2]
            clear HC
            go_wp2_with fail
            refine (implIsByte_any _ _).mono ?_
            rintro e w3 ⟨rfl, rfl⟩
            go_wp2_with fail
            go_region
            go_wp2_with fail
            rw [Hand.out, Hsh.out]
            refine bodyPost_ret (v := .tuple #[.agg #[.int .u64 V, .int .i64 ((k : Int) + 1)], .int .i64 1]) (by simp [results, Try.results28, go_sem, hc, hz]) rfl ⟨rfl, ?_⟩
            repeat (first | exact hbw | refine Below.drew ?_ | refine Below.setCell ?_ (by simp) _ | refine Below.alloc ?_ (by simp; omega) _)
          · have hx3 : decide ((X : Int) < 128) = false := decide_eq_false hx2
            obtain rfl : C = 0 := by rw [HC.out, if_neg hx2]
            clear HC
            go_wp2_with fail
            refine (implIsByte_any _ _).mono ?_
            rintro e w3 ⟨rfl, rfl⟩
            go_wp2_with fail
            go_region
            go_wp2_with fail
            rw [Hand.out, Hsh.out]
            refine bodyPost_ret (v := .tuple #[.agg #[.int .u64 V, .int .i64 ((k : Int) + 1)], .int .i64 0]) (by simp [results, Try.results28, go_sem, hc, hz]) rfl ⟨rfl, ?_⟩
            repeat (first | exact hbw | refine Below.drew ?_ | refine Below.setCell ?_ (by simp) _ | refine Below.alloc ?_ (by simp; omega) _)
    · have hxd : decide (0 ≤ x ∧ x ≤ 255) = false := decide_eq_false hx
      obtain rfl : R = (b, h, 2) := by rw [← HR.out]; exact scanByteR_no (fun h => hx h.2.1)
      go_wp2_with fail
      refine (implIsByte_any _ _).mono ?_
      rintro e w3 ⟨rfl, rfl⟩
      go_wp2_with fail
      exact bodyPost_ret (v := .tuple #[.agg #[.int .u64 b, .int .i64 h], .int .i64 2]) (by simp [results, Try.results28, go_sem, hc]) rfl ⟨rfl, (hbw.setCell (p := ⟨w.heap.size + 1, 0, none⟩) (by simp) _).setCell (p := ⟨w.heap.size + 1, 1, none⟩) (by simp) _⟩
end Go.Proofs.Ytcnpdcmdnmfnaaa.Num
