/-
  The walks of the reference's ScanOk, ScanByte and FixByte: they give what the plain definitions here say; only new memory is written.
-/
import Derived.Test.YtdnpambdonhliaaVar
import Derived.Test.YtdnpambdonhliaaVarGet
import Derived.Outline
namespace Go.Proofs.Ytdnpambdonhliaa.Num
open Go.RowKit Go.Proofs

def scV (b : Nat) (h : Int) : Value := .agg #[.int .u64 b, .int .i64 h]
def scanOkB (b : Nat) (h : Int) : Bool := decide (0 ≤ h ∧ h ≤ 9) && decide (b < 2 ^ (7 * h.toNat))
/-- State and code behind one byte. -/
def scanByteR (b : Nat) (h x : Int) : Nat × Int × Int :=
  if scanOkB b h = true ∧ (0 ≤ x ∧ x ≤ 255) ∧ ¬ (h = 9 ∧ 1 < x) then (b + x.toNat % 128 * 2 ^ (7 * h.toNat), h + 1, if x < 128 then 1 else 0) else (b, h, 2)
def fixByteR (b : Nat) (h x : Int) : Int × Int :=
  if (0 ≤ h ∧ h ≤ 7) ∧ (0 ≤ x ∧ x ≤ 255) then ((IntKind.u64.wrap ((b : Int) + IntKind.u64.wrap (x * 2 ^ (8 * h.toNat)))), h + 1) else (b, h)
set_option maxRecDepth 100000 in
theorem specScanOk_any (b : Nat) (h : Int) (w : World) :
    Calls Try.prog 18 #[scV b h] w fun e w' => e = .returned (.bool (scanOkB b h)) ∧ Below w.heap.size w w' := by
  unfold scV
  by_cases hin : 0 ≤ h ∧ h ≤ 9
  · have hd : decide (0 ≤ h ∧ h ≤ 9) = true := decide_eq_true hin
    obtain ⟨k, rfl⟩ := Int.eq_ofNat_of_zero_le hin.1
    have hk : k ≤ 9 := by omega
    go_enter Try.func18, Try.ntmps18
    go_wp2_with fail
    refine (specIn_any _ _ _ _).mono ?_
    rintro e w3 ⟨rfl, rfl⟩
    go_wp2_with fail
    go_ret
    refine ⟨?_, (Below.refl _ _).alloc (Nat.le_refl _) _⟩
    have hp : (b : Int) / 2 ^ (7 * k) = ((b / 2 ^ (7 * k) : Nat) : Int) := by simp
    have hq : ((b / 2 ^ (7 * k) : Nat) == 0) = decide (b < 2 ^ (7 * k)) := by
      rw [Bool.eq_iff_iff, beq_iff_eq, decide_eq_true_iff, Nat.div_eq_zero_iff]
      have := Nat.two_pow_pos (7 * k)
      omega
    show Ending.returned (.bool ((b : Int) / 2 ^ (7 * k) == 0)) = _
    rw [hp, show (((b / 2 ^ (7 * k) : Nat) : Int) == 0) = ((b / 2 ^ (7 * k) : Nat) == 0) by rw [Bool.eq_iff_iff, beq_iff_eq, beq_iff_eq]; omega, hq]
    unfold scanOkB
    rw [hd, Bool.true_and, Int.toNat_natCast]
  · have hd : decide (0 ≤ h ∧ h ≤ 9) = false := decide_eq_false hin
    go_enter Try.func18, Try.ntmps18
    go_wp2_with fail
    refine (specIn_any _ _ _ _).mono ?_
    rintro e w3 ⟨rfl, rfl⟩
    go_wp2_with fail
    go_ret
    exact ⟨by unfold scanOkB; rw [hd]; rfl, (Below.refl _ _).alloc (Nat.le_refl _) _⟩
theorem bcell {W w1 : World} (hb : Below W.heap.size W w1) : (∀ b o, b < W.heap.size → w1.cell? ⟨b, o, none⟩ = W.cell? ⟨b, o, none⟩) ∧ (∀ b o, b < W.heap.size → w1.frozen? ⟨b, o, none⟩ = W.frozen? ⟨b, o, none⟩) :=
  ⟨fun b o h => hb.cell (p := ⟨b, o, none⟩) h, fun b o h => hb.frozen (p := ⟨b, o, none⟩) h⟩
theorem scanByteR_no {b : Nat} {h x : Int} (hno : ¬ (scanOkB b h = true ∧ (0 ≤ x ∧ x ≤ 255) ∧ ¬ (h = 9 ∧ 1 < x))) : scanByteR b h x = (b, h, 2) := by unfold scanByteR; rw [if_neg hno]
set_option maxRecDepth 100000 in
theorem specScanByte_any (b : Nat) (h x : Int) (w : World) :
    Calls Try.prog 24 #[scV b h, .int .i64 x] w fun e w' => e = .returned (.tuple #[scV (scanByteR b h x).1 (scanByteR b h x).2.1, .int .i64 (scanByteR b h x).2.2]) ∧ Below w.heap.size w w' := by
  unfold scV
  generalize hR : scanByteR b h x = R
  have HR := Lib.hid hR; clear hR
  go_enter Try.func24, Try.ntmps24
  go_wp2_with fail
  refine (specScanOk_any b h _).mono ?_
  rintro e w1 ⟨rfl, hb1⟩
  obtain ⟨hc, hf⟩ := bcell hb1
  have hz : w.heap.size + 1 < w1.heap.size := by have := hb1.size; simp at this; omega
  have hbw : Below w.heap.size w w1 := (((Below.refl _ _).alloc (Nat.le_refl _) _).alloc (by simp) _).trans (hb1.mono (by simp; omega))
  cases hok : scanOkB b h with
  | false =>
    obtain rfl : R = (b, h, 2) := by rw [← HR.out]; exact scanByteR_no (by simp [hok])
    go_wp2_with fail
    exact bodyPost_ret (v := .tuple #[.agg #[.int .u64 b, .int .i64 h], .int .i64 2]) (by simp [results, Try.results24, go_sem, hc]) rfl ⟨rfl, (hbw.setCell (p := ⟨w.heap.size + 1, 0, none⟩) (by simp) _).setCell (p := ⟨w.heap.size + 1, 1, none⟩) (by simp) _⟩
  | true =>
    by_cases hx : 0 ≤ x ∧ x ≤ 255
    · have hxd : decide (0 ≤ x ∧ x ≤ 255) = true := decide_eq_true hx
      unfold scanOkB at hok
      simp only [Bool.and_eq_true, decide_eq_true_iff] at hok
      obtain ⟨⟨h0, h9⟩, hb2⟩ := hok
      obtain ⟨k, rfl⟩ := Int.eq_ofNat_of_zero_le h0
      obtain ⟨X, rfl⟩ := Int.eq_ofNat_of_zero_le hx.1
      rw [Int.toNat_natCast] at hb2
      have Hb2 := Lib.hid hb2; clear hb2
      by_cases h9x : (k : Int) = 9 ∧ (1 : Int) < (X : Int)
      · obtain rfl : R = (b, (k : Int), 2) := by rw [← HR.out]; exact scanByteR_no (fun h => h.2.2 h9x)
        have h9b : ((k : Int) == 9) = true := by rw [beq_iff_eq]; exact h9x.1
        have hx1 := h9x.2
        clear h9x
        go_wp2_with fail
        refine (specIn_any _ _ _ _).mono ?_
        rintro e w3 ⟨rfl, rfl⟩
        go_wp2_with fail
        exact bodyPost_ret (v := .tuple #[.agg #[.int .u64 b, .int .i64 k], .int .i64 2]) (by simp [results, Try.results24, go_sem, hc]) rfl ⟨rfl, (hbw.setCell (p := ⟨w.heap.size + 1, 0, none⟩) (by simp) _).setCell (p := ⟨w.heap.size + 1, 1, none⟩) (by simp) _⟩
      · have hk : k ≤ 8 ∨ (k = 9 ∧ X ≤ 1) := by omega
        have Hsh := Lib.hid (shiftAdd b k X Hb2.out hk)
        have hg : ((k : Int) == 9 && decide ((1 : Int) < (X : Int))) = false := by
          rw [Bool.eq_false_iff]; intro hh; simp only [Bool.and_eq_true, beq_iff_eq, decide_eq_true_iff] at hh; exact h9x hh
        obtain ⟨V, hV⟩ : ∃ V : Nat, V = b + X % 128 * 2 ^ (7 * k) := ⟨_, rfl⟩
        obtain ⟨C, hC⟩ : ∃ C : Int, C = if (X : Int) < 128 then 1 else 0 := ⟨_, rfl⟩
        obtain rfl : R = (V, (k : Int) + 1, C) := by
          rw [← HR.out, hV, hC]; unfold scanByteR
          rw [if_pos ⟨by unfold scanOkB; simp only [Bool.and_eq_true, decide_eq_true_iff]; exact ⟨⟨h0, h9⟩, by rw [Int.toNat_natCast]; exact Hb2.out⟩, hx, h9x⟩]
          rw [Int.toNat_natCast, Int.toNat_natCast]
        rw [← hV] at Hsh
        have HV := Lib.hid hV; clear hV
        have HC := Lib.hid hC; clear hC
        have hz2 := hbw.size
        by_cases h9k : (k : Int) = 9
        · have h9b : ((k : Int) == 9) = true := by rw [beq_iff_eq]; exact h9k
          have hx1 : decide ((1 : Int) < (X : Int)) = false := decide_eq_false (by omega)
          have hx2 : (X : Int) < 128 := by omega
          obtain rfl : C = 1 := by rw [HC.out, if_pos hx2]
          clear h9x hg h9k HC
          go_wp2_with fail
          refine (specIn_any _ _ _ _).mono ?_
          rintro e w3 ⟨rfl, rfl⟩
          go_wp2_with fail
          refine bodyPost_ret (v := .tuple #[.agg #[.int .u64 (IntKind.u64.wrap ((b : Int) + IntKind.u64.wrap ((X : Int) % 128 * 2 ^ (7 * k)))), .int .i64 ((k : Int) + 1)], .int .i64 1]) (by simp [results, Try.results24, go_sem, hc, hz]) rfl ⟨by rw [Hsh.out], ?_⟩
          refine Below.alloc ?_ (by simp; omega) _
          repeat (refine Below.setCell ?_ (by simp) _)
          exact hbw
        · have h9b : ((k : Int) == 9) = false := by rw [beq_eq_false_iff_ne]; exact h9k
          clear h9x hg h9k
          by_cases hx2 : (X : Int) < 128
          · obtain rfl : C = 1 := by rw [HC.out, if_pos hx2]
            clear HC
            go_wp2_with fail
            refine (specIn_any _ _ _ _).mono ?_
            rintro e w3 ⟨rfl, rfl⟩
            go_wp2_with fail
            refine bodyPost_ret (v := .tuple #[.agg #[.int .u64 (IntKind.u64.wrap ((b : Int) + IntKind.u64.wrap ((X : Int) % 128 * 2 ^ (7 * k)))), .int .i64 ((k : Int) + 1)], .int .i64 1]) (by simp [results, Try.results24, go_sem, hc, hz]) rfl ⟨by rw [Hsh.out], ?_⟩
            refine Below.alloc ?_ (by simp; omega) _
            repeat (refine Below.setCell ?_ (by simp) _)
            exact hbw
          · obtain rfl : C = 0 := by rw [HC.out, if_neg hx2]
            have hx3 : decide ((X : Int) < 128) = false := decide_eq_false hx2
            clear HC
            go_wp2_with fail
            refine (specIn_any _ _ _ _).mono ?_
            rintro e w3 ⟨rfl, rfl⟩
            go_wp2_with fail
            refine bodyPost_ret (v := .tuple #[.agg #[.int .u64 (IntKind.u64.wrap ((b : Int) + IntKind.u64.wrap ((X : Int) % 128 * 2 ^ (7 * k)))), .int .i64 ((k : Int) + 1)], .int .i64 0]) (by simp [results, Try.results24, go_sem, hc, hz]) rfl ⟨by rw [Hsh.out], ?_⟩
            refine Below.alloc ?_ (by simp; omega) _
            repeat (refine Below.setCell ?_ (by simp) _)
            exact hbw
    · have hxd : decide (0 ≤ x ∧ x ≤ 255) = false := decide_eq_false hx
      obtain rfl : R = (b, h, 2) := by rw [← HR.out]; exact scanByteR_no (fun h => hx h.2.1)
      go_wp2_with fail
      refine (specIn_any _ _ _ _).mono ?_
      rintro e w3 ⟨rfl, rfl⟩
      go_wp2_with fail
      exact bodyPost_ret (v := .tuple #[.agg #[.int .u64 b, .int .i64 h], .int .i64 2]) (by simp [results, Try.results24, go_sem, hc]) rfl ⟨rfl, (hbw.setCell (p := ⟨w.heap.size + 1, 0, none⟩) (by simp) _).setCell (p := ⟨w.heap.size + 1, 1, none⟩) (by simp) _⟩
theorem fixByteR_no {b : Nat} {h x : Int} (hno : ¬ ((0 ≤ h ∧ h ≤ 7) ∧ (0 ≤ x ∧ x ≤ 255))) : fixByteR b h x = ((b : Int), h) := by unfold fixByteR; rw [if_neg hno]
set_option maxRecDepth 100000 in
theorem specFixByte_any (b : Nat) (h x : Int) (w : World) :
    Calls Try.prog 36 #[scV b h, .int .i64 x] w fun e w' => e = .returned (.agg #[.int .u64 (fixByteR b h x).1, .int .i64 (fixByteR b h x).2]) ∧ Below w.heap.size w w' := by
  unfold scV
  generalize hR : fixByteR b h x = R
  have HR := Lib.hid hR; clear hR
  by_cases h7 : 0 ≤ h ∧ h ≤ 7
  · have h7d : decide (0 ≤ h ∧ h ≤ 7) = true := decide_eq_true h7
    by_cases hx : 0 ≤ x ∧ x ≤ 255
    · have hxd : decide (0 ≤ x ∧ x ≤ 255) = true := decide_eq_true hx
      obtain ⟨k, rfl⟩ := Int.eq_ofNat_of_zero_le h7.1
      obtain ⟨X, rfl⟩ := Int.eq_ofNat_of_zero_le hx.1
      obtain rfl : R = (IntKind.u64.wrap ((b : Int) + IntKind.u64.wrap ((X : Int) * 2 ^ (8 * k))), (k : Int) + 1) := by
        rw [← HR.out]; unfold fixByteR; rw [if_pos ⟨h7, hx⟩, Int.toNat_natCast]
      go_enter Try.func36, Try.ntmps36
      go_wp2_with fail
      refine (specIn_any _ _ _ _).mono ?_
      rintro e w3 ⟨rfl, rfl⟩
      go_wp2_with fail
      refine (specIn_any _ _ _ _).mono ?_
      rintro e w3 ⟨rfl, rfl⟩
      go_wp2_with fail
      exact bodyPost_ret (v := .agg #[.int .u64 (IntKind.u64.wrap ((b : Int) + IntKind.u64.wrap ((X : Int) * 2 ^ (8 * k)))), .int .i64 ((k : Int) + 1)]) (by simp [results, Try.results36, go_sem]) rfl ⟨rfl, ((Below.refl _ _).alloc (Nat.le_refl _) _).alloc (by simp) _⟩
    · have hxd : decide (0 ≤ x ∧ x ≤ 255) = false := decide_eq_false hx
      obtain rfl : R = ((b : Int), h) := by rw [← HR.out]; exact fixByteR_no (fun h => hx h.2)
      go_enter Try.func36, Try.ntmps36
      go_wp2_with fail
      refine (specIn_any _ _ _ _).mono ?_
      rintro e w3 ⟨rfl, rfl⟩
      go_wp2_with fail
      refine (specIn_any _ _ _ _).mono ?_
      rintro e w3 ⟨rfl, rfl⟩
      go_wp2_with fail
      exact bodyPost_ret (v := .agg #[.int .u64 b, .int .i64 h]) (by simp [results, Try.results36, go_sem]) rfl ⟨rfl, ((Below.refl _ _).alloc (Nat.le_refl _) _).alloc (by simp) _⟩
  · have h7d : decide (0 ≤ h ∧ h ≤ 7) = false := decide_eq_false h7
    obtain rfl : R = ((b : Int), h) := by rw [← HR.out]; exact fixByteR_no (fun h => h7 h.1)
    go_enter Try.func36, Try.ntmps36
    go_wp2_with fail
    refine (specIn_any _ _ _ _).mono ?_
    rintro e w3 ⟨rfl, rfl⟩
    go_wp2_with fail
    exact bodyPost_ret (v := .agg #[.int .u64 b, .int .i64 h]) (by simp [results, Try.results36, go_sem]) rfl ⟨rfl, ((Below.refl _ _).alloc (Nat.le_refl _) _).alloc (by simp) _⟩
end Go.Proofs.Ytdnpambdonhliaa.Num
