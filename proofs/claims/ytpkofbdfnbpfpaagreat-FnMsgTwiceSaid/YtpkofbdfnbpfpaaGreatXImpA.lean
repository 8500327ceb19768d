/-
  Several texts in one: Scan ScanImpl ScanByte ScanStep WithinI FixS PutFixI PutFix FixByte GetFix.
-/
import Derived.Test.YtpkofbdfnbpfpaaGreatXSpecA
import Derived.Outline
import Derived.Test.YtpkofbdfnbpfpaaGreatBox
import Derived.Test.YtpkofbdfnbpfpaaGreatXVarBits
import Derived.BigRegion
import Derived.Laws.Bits128
import Derived.Deep.QuietTactic
import Derived.BigQuiet
import Derived.Laws.BitsAllLaws
import Derived.RegionTactic
import Derived.Deep.RegionHeld3
import Derived.Test.YtpkofbdfnbpfpaaGreatDraw
import Derived.Test.YtpkofbdfnbpfpaaGreatProg
import Derived.WalkLawsBesides
import Derived.WalkSpells
import Derived.LoopTactic
import Derived.Deep.OwnRows

/-
  The walks of the reference's ScanOk, ScanByte and FixByte: they give what the plain definitions here say; only new memory is written.
-/
namespace Go.Proofs.YtpkofbdfnbpfpaaGreat.Num
open Go.RowKit Go.Proofs

def scV (b : Nat) (h : Int) : Value := .agg #[.int .u64 b, .int .i64 h]
def scanOkB (b : Nat) (h : Int) : Bool := decide (0 ≤ h ∧ h ≤ 9) && decide (b < 2 ^ (7 * h.toNat))
/-- State and code behind one byte. -/
def scanByteR (b : Nat) (h x : Int) : Nat × Int × Int :=
  if scanOkB b h = true ∧ (0 ≤ x ∧ x ≤ 255) ∧ ¬ (h = 9 ∧ 1 < x) then (b + x.toNat % 128 * 2 ^ (7 * h.toNat), h + 1, if x < 128 then 1 else 0) else (b, h, 2)
def fixByteR (b : Nat) (h x : Int) : Int × Int :=
  if (0 ≤ h ∧ h ≤ 7) ∧ (0 ≤ x ∧ x ≤ 255) then ((IntKind.u64.wrap ((b : Int) + IntKind.u64.wrap (x * 2 ^ (8 * h.toNat)))), h + 1) else (b, h)
theorem bcell {W w1 : World} (hb : Below W.heap.size W w1) : (∀ b o, b < W.heap.size → w1.cell? ⟨b, o, none⟩ = W.cell? ⟨b, o, none⟩) ∧ (∀ b o, b < W.heap.size → w1.frozen? ⟨b, o, none⟩ = W.frozen? ⟨b, o, none⟩) :=
  ⟨fun b o h => hb.cell (p := ⟨b, o, none⟩) h, fun b o h => hb.frozen (p := ⟨b, o, none⟩) h⟩
theorem scanByteR_no {b : Nat} {h x : Int} (hno : ¬ (scanOkB b h = true ∧ (0 ≤ x ∧ x ≤ 255) ∧ ¬ (h = 9 ∧ 1 < x))) : scanByteR b h x = (b, h, 2) := by unfold scanByteR; rw [if_neg hno]
theorem fixByteR_no {b : Nat} {h x : Int} (hno : ¬ ((0 ≤ h ∧ h ≤ 7) ∧ (0 ≤ x ∧ x ≤ 255))) : fixByteR b h x = ((b : Int), h) := by unfold fixByteR; rw [if_neg hno]
end Go.Proofs.YtpkofbdfnbpfpaaGreat.Num


/-
  The walks of the program's ScanOk, ScanByte, ScanText, FixByte and their helpers: they give what the reference's give; only new memory is written.
-/
namespace Go.Proofs.YtpkofbdfnbpfpaaGreat.Num
open Go.RowKit Go.Proofs
theorem pow_le9 (k : Nat) (hk : k ≤ 9) : 2 ^ (7 * k) ≤ 9223372036854775808 := Nat.le_trans (Nat.pow_le_pow_right (by omega) (show 7 * k ≤ 63 by omega)) (by decide)
theorem pow_less (k : Nat) (hk : k ≤ 9) : IntKind.u64.wrap (IntKind.u64.wrap ((2 : Int) ^ (7 * k)) - 1) = ((2 ^ (7 * k) - 1 : Nat) : Int) := by
  have h1 := pow_le9 k hk
  have h0 := Nat.two_pow_pos (7 * k)
  rw [show ((2 : Int) ^ (7 * k)) = ((2 ^ (7 * k) : Nat) : Int) by simp]
  generalize 2 ^ (7 * k) = x at h0 h1
  rw [IntKind.wrap_u64, IntKind.wrap_u64]
  omega
set_option maxRecDepth 100000 in
theorem implWithin_any (b k : Nat) (hb : b ≤ 18446744073709551615) (hk : k ≤ 9) (w : World) :
    Calls Tryz.prog 195 #[scV b k] w fun e w' => e = .returned (scV (b % 2 ^ (7 * k)) k) ∧ Below w.heap.size w w' := by
  unfold scV
  have Hb := Lib.hid hb; clear hb
  go_enter Tryz.func195, Tryz.ntmps195
  go_wp2_with fail
  go_region
  go_wp2_with fail
  have hp : IntKind.u64.wrap (IntKind.u64.wrap (2 ^ (7 * k)) - 1) = ((2 ^ (7 * k) - 1 : Nat) : Int) := pow_less k hk
  have hm : bits BinOp.and IntKind.u64 (b : Int) ((2 ^ (7 * k) - 1 : Nat) : Int) = ((b % 2 ^ (7 * k) : Nat) : Int) := by
    rw [u64_and_nat _ _ (by have := Hb.out; omega) (by have := pow_le9 k hk; omega), Nat.and_two_pow_sub_one_eq_mod]
  rw [hp, hm]
  exact bodyPost_ret (v := .agg #[.int .u64 ((b % 2 ^ (7 * k) : Nat) : Int), .int .i64 k]) (by simp [results, Tryz.results195, go_sem]) rfl ⟨rfl, (((Below.refl _ _).alloc (Nat.le_refl _) _).alloc (by simp) _).drew⟩
theorem implWithin_in (b k : Nat) (hb : b ≤ 18446744073709551615) (hk : k ≤ 9) (hl : b < 2 ^ (7 * k)) (w : World) :
    Calls Tryz.prog 195 #[scV b k] w fun e w' => e = .returned (scV b k) ∧ Below w.heap.size w w' :=
  (implWithin_any b k hb hk w).mono fun e w' ⟨he, hB⟩ => ⟨by rw [he, Nat.mod_eq_of_lt hl], hB⟩
theorem implWithin_out (b k : Nat) (hb : b ≤ 18446744073709551615) (hk : k ≤ 9) (hl : ¬ b < 2 ^ (7 * k)) (w : World) :
    Calls Tryz.prog 195 #[scV b k] w fun e w' => ∃ m : Nat, ((b : Int) == (m : Int)) = false ∧ e = .returned (scV m k) ∧ Below w.heap.size w w' :=
  (implWithin_any b k hb hk w).mono fun e w' ⟨he, hB⟩ => ⟨b % 2 ^ (7 * k), by rw [beq_eq_false_iff_ne]; have := Nat.mod_lt b (Nat.two_pow_pos (7 * k)); omega, he, hB⟩
theorem implIsByte_any (x : Int) (w : World) :
    Calls Tryz.prog 182 #[.int .i64 x] w fun e w' => e = .returned (.bool (decide (0 ≤ x ∧ x ≤ 255))) ∧ w = w' := by
  by_cases h1 : 0 ≤ x
  · by_cases h2 : x ≤ 255
    · go_enter Tryz.func182, Tryz.ntmps182
      go_wp2_with fail
      go_ret
      exact ⟨by simp [h1, h2], rfl⟩
    · go_enter Tryz.func182, Tryz.ntmps182
      go_wp2_with fail
      go_ret
      exact ⟨by simp [h2], rfl⟩
  · go_enter Tryz.func182, Tryz.ntmps182
    go_wp2_with fail
    go_ret
    exact ⟨by have h2 : decide (0 ≤ x) = false := decide_eq_false (by omega)
              rw [h2]; rfl, rfl⟩
set_option maxHeartbeats 1000000 in
set_option maxRecDepth 100000 in
theorem implScanOk_any (b : Nat) (h : Int) (hb : b ≤ 18446744073709551615) (w : World) :
    Calls Tryz.prog 181 #[scV b h] w fun e w' => e = .returned (.bool (scanOkB b h)) ∧ Below w.heap.size w w' := by
  unfold scV
  have Hb := Lib.hid hb; clear hb
  by_cases h0 : h < 0
  · have h0d : decide (0 ≤ h) = false := decide_eq_false (by omega)
    go_enter Tryz.func181, Tryz.ntmps181
    go_wp2_with fail
    go_quiet (fail)
    go_wp2_with fail
    go_ret
    exact ⟨by unfold scanOkB; rw [decide_eq_false (by omega)]; rfl, below_drewN ((Below.refl _ _).alloc (Nat.le_refl _) _) _⟩
  · obtain ⟨k, rfl⟩ := Int.eq_ofNat_of_zero_le (show 0 ≤ h by omega)
    by_cases h10 : 10 ≤ k
    · have h0d : decide ((k : Int) < 10) = false := decide_eq_false (by omega)
      go_enter Tryz.func181, Tryz.ntmps181
      go_wp2_with fail
      go_quiet (fail)
      go_wp2_with fail
      go_ret
      exact ⟨by unfold scanOkB; rw [decide_eq_false (by omega)]; rfl, below_drewN ((Below.refl _ _).alloc (Nat.le_refl _) _) _⟩
    · have h9 : k ≤ 9 := by omega
      have h9' : (k : Int) < 10 := by omega
      by_cases hlt : b < 2 ^ (7 * k)
      · have Hlt := Lib.hid hlt; clear hlt
        go_enter Tryz.func181, Tryz.ntmps181
        go_wp2_with fail
        go_region_with (go_at_call 195; refine (implWithin_in b k Hb.out h9 Hlt.out _).mono ?_; rintro e w1 ⟨rfl, hb1⟩; unfold scV; obtain ⟨hc, hf⟩ := bcell hb1)
        all_goals go_wp2_with fail
        all_goals go_ret
        all_goals exact ⟨by unfold scanOkB; rw [decide_eq_true (by omega), Int.toNat_natCast, decide_eq_true Hlt.out]; rfl, (((Below.refl _ _).alloc (Nat.le_refl _) _).drew).trans (hb1.mono (by simp))⟩
      · have Hlt := Lib.hid hlt; clear hlt
        go_enter Tryz.func181, Tryz.ntmps181
        go_wp2_with fail
        go_region_with (go_at_call 195; refine (implWithin_out b k Hb.out h9 Hlt.out _).mono ?_; rintro e w1 ⟨m, hne, rfl, hb1⟩; unfold scV; obtain ⟨hc, hf⟩ := bcell hb1)
        all_goals go_wp2_with fail
        all_goals go_ret
        all_goals exact ⟨by unfold scanOkB; rw [decide_eq_true (by omega), Int.toNat_natCast, decide_eq_false Hlt.out]; rfl, (((Below.refl _ _).alloc (Nat.le_refl _) _).drew).trans (hb1.mono (by simp))⟩
end Go.Proofs.YtpkofbdfnbpfpaaGreat.Num


/-
  The walk of the program's ScanByte: it gives what the reference's gives; only new memory is written.
-/
namespace Go.Proofs.YtpkofbdfnbpfpaaGreat.Num
open Go.RowKit Go.Proofs
theorem orShift3 (u k c : Nat) (hu : u < 2 ^ (7 * k)) (hk : k ≤ 8 ∨ (k = 9 ∧ c ≤ 1)) :
    bits .or .u64 (u : Int) (IntKind.u64.wrap (IntKind.u64.wrap ((c % 128 : Nat) : Int) * 2 ^ (7 * k))) = ((u + c % 128 * 2 ^ (7 * k) : Nat) : Int) := by
  have hx : u + c % 128 * 2 ^ (7 * k) ≤ 18446744073709551615 := by
    rcases hk with hk | ⟨rfl, hc⟩
    · have h1 := two7 k hk
      have h2 : c % 128 * 2 ^ (7 * k) ≤ 127 * 2 ^ (7 * k) := Nat.mul_le_mul_right _ (by omega)
      omega
    · simp only [Nat.reduceMul, Nat.reducePow] at hu ⊢
      have : c % 128 ≤ 1 := by omega
      omega
  have e0 : IntKind.u64.wrap ((c % 128 : Nat) : Int) = ((c % 128 : Nat) : Int) := by rw [IntKind.wrap_u64]; omega
  have e : ((c % 128 : Nat) : Int) * 2 ^ (7 * k) = ((c % 128 * 2 ^ (7 * k) : Nat) : Int) := by simp
  rw [e0, e, IntKind.wrap_u64, show ((c % 128 * 2 ^ (7 * k) : Nat) : Int) % 18446744073709551616 = ((c % 128 * 2 ^ (7 * k) : Nat) : Int) by omega, u64_or_nat _ _ (by omega) (by omega), Var.or_above _ _ _ hu]
set_option maxHeartbeats 1000000 in
set_option maxRecDepth 100000 in
theorem implScanByte_any (b : Nat) (h x : Int) (hb : b ≤ 18446744073709551615) (w : World) :
    Calls Tryz.prog 160 #[scV b h, .int .i64 x] w fun e w' => e = .returned (.tuple #[scV (scanByteR b h x).1 (scanByteR b h x).2.1, .int .i64 (scanByteR b h x).2.2]) ∧ Below w.heap.size w w' := by
  unfold scV
  have Hbb := Lib.hid hb; clear hb
  generalize hR : scanByteR b h x = R
  have HR := Lib.hid hR; clear hR
  go_enter Tryz.func160, Tryz.ntmps160
  go_wp2_with fail
  refine (implScanOk_any b h Hbb.out _).mono ?_
  rintro e w1 ⟨rfl, hb1⟩
  obtain ⟨hc, hf⟩ := bcell hb1
  have hz : w.heap.size + 1 < w1.heap.size := by have := hb1.size; simp at this; omega
  have hbw : Below w.heap.size w w1 := (((Below.refl _ _).alloc (Nat.le_refl _) _).alloc (by simp) _).trans (hb1.mono (by simp; omega))
  cases hok : scanOkB b h with
  | false =>
    obtain rfl : R = (b, h, 2) := by rw [← HR.out]; exact scanByteR_no (by simp [hok])
    go_wp2_with fail
    exact bodyPost_ret (v := .tuple #[.agg #[.int .u64 b, .int .i64 h], .int .i64 2]) (by simp [results, Tryz.results160, go_sem, hc]) rfl ⟨rfl, (hbw.setCell (p := ⟨w.heap.size + 1, 0, none⟩) (by simp) _).setCell (p := ⟨w.heap.size + 1, 1, none⟩) (by simp) _⟩
  | true =>
    by_cases hx : 0 ≤ x ∧ x ≤ 255
    · have hxd : decide (0 ≤ x ∧ x ≤ 255) = true := decide_eq_true hx
      unfold scanOkB at hok
      simp only [Bool.and_eq_true, decide_eq_true_iff] at hok
      obtain ⟨⟨h0, h9⟩, hb2⟩ := hok
      obtain ⟨k, rfl⟩ := Int.eq_ofNat_of_zero_le h0
      obtain ⟨X, rfl⟩ := Int.eq_ofNat_of_zero_le hx.1
      rw [Int.toNat_natCast] at hb2
      have Hb2 := Lib.hid hb2; clear hb2
      by_cases h9x : (k : Int) = 9 ∧ (1 : Int) < (X : Int)
      · obtain rfl : R = (b, (k : Int), 2) := by rw [← HR.out]; exact scanByteR_no (fun h => h.2.2 h9x)
        have h9b : ((k : Int) == 9) = true := by rw [beq_iff_eq]; exact h9x.1
        have hx1 := h9x.2
        clear h9x
        go_wp2_with fail
        refine (implIsByte_any _ _).mono ?_
        rintro e w3 ⟨rfl, rfl⟩
        go_wp2_with fail
        exact bodyPost_ret (v := .tuple #[.agg #[.int .u64 b, .int .i64 k], .int .i64 2]) (by simp [results, Tryz.results160, go_sem, hc]) rfl ⟨rfl, (hbw.setCell (p := ⟨w.heap.size + 1, 0, none⟩) (by simp) _).setCell (p := ⟨w.heap.size + 1, 1, none⟩) (by simp) _⟩
      · have hk : k ≤ 8 ∨ (k = 9 ∧ X ≤ 1) := by omega
        have hX : X ≤ 255 := by omega
        have Hsh := Lib.hid (orShift3 b k X Hb2.out hk)
        obtain ⟨V, hV⟩ : ∃ V : Nat, V = b + X % 128 * 2 ^ (7 * k) := ⟨_, rfl⟩
        obtain ⟨C, hC⟩ : ∃ C : Int, C = if (X : Int) < 128 then 1 else 0 := ⟨_, rfl⟩
        obtain rfl : R = (V, (k : Int) + 1, C) := by
          rw [← HR.out, hV, hC]; unfold scanByteR
          rw [if_pos ⟨by unfold scanOkB; simp only [Bool.and_eq_true, decide_eq_true_iff]; exact ⟨⟨h0, h9⟩, by rw [Int.toNat_natCast]; exact Hb2.out⟩, hx, h9x⟩]
          rw [Int.toNat_natCast, Int.toNat_natCast]
        rw [← hV] at Hsh
        have HV := Lib.hid hV; clear hV
        have HC := Lib.hid hC; clear hC
        have hz2 := hbw.size
        have Hand : Hid (bits BinOp.and IntKind.i64 (X : Int) 127 = ((X % 128 : Nat) : Int)) := Lib.hid (by rw [i64_and127]; omega)
        have h9y : ((k : Int) == 9) = true → decide ((1 : Int) < (X : Int)) = false := fun h => decide_eq_false (by intro h2; exact h9x ⟨by simpa using h, h2⟩)
        have hk9 : k ≤ 9 := by omega
        have hz0 : w.heap.size < w1.heap.size := by omega
        clear h9x hk
        cases h9b : ((k : Int) == 9)
        all_goals
          first | (have hx1 := h9y h9b) | skip
          clear h9y
          by_cases hx2 : (X : Int) < 128
          · obtain rfl : C = 1 := by rw [HC.out, if_pos hx2]
            clear HC
            go_wp2_with fail
            refine (implIsByte_any _ _).mono ?_
            rintro e w3 ⟨rfl, rfl⟩
            go_wp2_with fail
            go_region
            go_wp2_with fail
            rw [Hand.out, Hsh.out]
            refine bodyPost_ret (v := .tuple #[.agg #[.int .u64 V, .int .i64 ((k : Int) + 1)], .int .i64 1]) (by simp [results, Tryz.results160, go_sem, hc, hz]) rfl ⟨rfl, ?_⟩
            repeat (first | exact hbw | refine Below.drew ?_ | refine Below.setCell ?_ (by simp) _ | refine Below.alloc ?_ (by simp; omega) _)
          · have hx3 : decide ((X : Int) < 128) = false := decide_eq_false hx2
            obtain rfl : C = 0 := by rw [HC.out, if_neg hx2]
            clear HC
            go_wp2_with fail
            refine (implIsByte_any _ _).mono ?_
            rintro e w3 ⟨rfl, rfl⟩
            go_wp2_with fail
            go_region
            go_wp2_with fail
            rw [Hand.out, Hsh.out]
            refine bodyPost_ret (v := .tuple #[.agg #[.int .u64 V, .int .i64 ((k : Int) + 1)], .int .i64 0]) (by simp [results, Tryz.results160, go_sem, hc, hz]) rfl ⟨rfl, ?_⟩
            repeat (first | exact hbw | refine Below.drew ?_ | refine Below.setCell ?_ (by simp) _ | refine Below.alloc ?_ (by simp; omega) _)
    · have hxd : decide (0 ≤ x ∧ x ≤ 255) = false := decide_eq_false hx
      obtain rfl : R = (b, h, 2) := by rw [← HR.out]; exact scanByteR_no (fun h => hx h.2.1)
      go_wp2_with fail
      refine (implIsByte_any _ _).mono ?_
      rintro e w3 ⟨rfl, rfl⟩
      go_wp2_with fail
      exact bodyPost_ret (v := .tuple #[.agg #[.int .u64 b, .int .i64 h], .int .i64 2]) (by simp [results, Tryz.results160, go_sem, hc]) rfl ⟨rfl, (hbw.setCell (p := ⟨w.heap.size + 1, 0, none⟩) (by simp) _).setCell (p := ⟨w.heap.size + 1, 1, none⟩) (by simp) _⟩
end Go.Proofs.YtpkofbdfnbpfpaaGreat.Num


/-
  Plain lemmas: what one byte does to the state of a number that is read byte by byte.
-/
namespace Go.Proofs.YtpkofbdfnbpfpaaGreat.Num
open Go.RowKit Go.Proofs
set_option linter.unusedVariables false
theorem scanOk_nat {b k : Nat} (hk : k ≤ 9) (hb : b < 2 ^ (7 * k)) : scanOkB b (k : Int) = true := by
  unfold scanOkB; rw [Bool.and_eq_true, decide_eq_true_iff, decide_eq_true_iff]; exact ⟨by omega, by rw [Int.toNat_natCast]; exact hb⟩
theorem byteR_over {b : Nat} {c : UInt8} (hb : b < 2 ^ (7 * 9)) (hc : 1 < c.toNat) : scanByteR b ((9 : Nat) : Int) (c.toNat : Int) = (b, ((9 : Nat) : Int), 2) := by
  unfold scanByteR; rw [if_neg]; intro h; exact h.2.2 ⟨rfl, by omega⟩
theorem byteR_ok {b k : Nat} {c : UInt8} (hk : k ≤ 9) (hb : b < 2 ^ (7 * k)) (hc : ¬ (k = 9 ∧ 1 < c.toNat)) : scanByteR b (k : Int) (c.toNat : Int) = (b + c.toNat % 128 * 2 ^ (7 * k), ((k + 1 : Nat) : Int), if c.toNat < 128 then 1 else 0) := by
  have h8 := c.toNat_lt
  unfold scanByteR
  rw [if_pos ⟨scanOk_nat hk hb, by omega, by omega⟩, Int.toNat_natCast, Int.toNat_natCast]
  by_cases h : c.toNat < 128
  · rw [if_pos h, if_pos (by omega)]; rfl
  · rw [if_neg h, if_neg (by omega)]; rfl
end Go.Proofs.YtpkofbdfnbpfpaaGreat.Num


/-
  The walk of the program's VarWithin: it gives what the reference's gives; only new memory is written.
-/
namespace Go.Proofs.YtpkofbdfnbpfpaaGreat.Num
open Go.RowKit Go.Proofs
set_option linter.unusedVariables false
set_option linter.unusedSimpArgs false

/-- Where a number that is read byte by byte stands. -/
structure WI (s : ByteArray) (A : Nat) (E : Int) (R : Int × Int × Int) (k V N : Nat) : Prop where
  k9 : k ≤ 9
  lt : V < 2 ^ (7 * k)
  at_ : N = A + k
  inn : N ≤ s.size
  res : R = withinRes s A E (Var.scan k V ((s.data.toList.drop N).take (E - N).toNat))
theorem WI.start {s : ByteArray} {A : Nat} {E : Int} (hA : A ≤ s.size) : WI s A E (withinR s A E) 0 0 A :=
  ⟨by omega, by decide, rfl, hA, within_in hA⟩
section
variable {s : ByteArray} {A : Nat} {E : Int} {R : Int × Int × Int} {k V N : Nat}
theorem WI.wide (h : WI s A E R k V N) : V ≤ 18446744073709551615 := by
  have h1 := pow_le9 k h.k9
  have h2 := h.lt
  omega
theorem WI.ended (h : WI s A E R k V N) (he : E ≤ N) : R = (0, E, 9) := by
  have h0 : (E - N).toNat = 0 := by omega
  have h1 := h.inn
  rw [h.res, h0]; simp only [List.take_zero, Var.scan, withinRes]; rw [if_pos (by omega)]
theorem WI.cut (h : WI s A E R k V N) (he : (N : Int) < E) (hn : N = s.size) : R = (0, (N : Int), 10) := by
  have h0 : s.data.toList.drop N = [] := drop_all s N (by omega)
  rw [h.res, h0]; simp only [List.take_nil, Var.scan, withinRes]; rw [if_neg (by omega), hn]
theorem WI.byte (h : WI s A E R k V N) (he : (N : Int) < E) (hn : N < s.size) {V' : Nat} {H' C' : Int} (hr : scanByteR V k (s[N].toNat : Int) = (V', H', C')) :
    (C' = 2 ∧ R = (0, (N : Int), 1)) ∨ (C' = 1 ∧ R = ((V' : Int), (N : Int) + 1, 0)) ∨ (C' = 0 ∧ H' = ((k + 1 : Nat) : Int) ∧ WI s A E R (k + 1) V' (N + 1)) := by
  have hres := h.res
  have hlt := h.lt
  have hk := h.k9
  have hat := h.at_
  rw [take_at s N (E - N).toNat hn (by omega), Var.scan] at hres
  by_cases h9 : k = 9 ∧ 1 < s[N].toNat
  · rw [if_pos h9] at hres
    obtain ⟨rfl, h1⟩ := h9
    rw [byteR_over hlt h1] at hr
    simp only [Prod.mk.injEq] at hr
    refine .inl ⟨hr.2.2.symm, ?_⟩
    rw [hres]; simp only [withinRes]; rw [show ((A : Int) + (9 : Nat) : Int) = (N : Int) by omega]
  · rw [if_neg h9] at hres
    have hb := byteR_ok hk hlt h9
    rw [hb] at hr
    simp only [Prod.mk.injEq] at hr
    obtain ⟨r1, r2, r3⟩ := hr
    by_cases hc : s[N].toNat < 128
    · rw [if_pos hc] at hres r3
      refine .inr (.inl ⟨r3.symm, ?_⟩)
      rw [hres, ← r1]; simp only [withinRes]; rw [show ((A : Int) + ((k + 1 : Nat) : Int) : Int) = (N : Int) + 1 by omega]
    · rw [if_neg hc] at hres r3
      refine .inr (.inr ⟨r3.symm, r2.symm, by omega, by rw [← r1]; exact step_lt hlt, by omega, by omega, ?_⟩)
      rw [hres, ← r1, show (E - (N : Int)).toNat - 1 = (E - ((N + 1 : Nat) : Int)).toNat by omega]
end
theorem drew_lt' {w w1 : World} {B : Nat} (hb : Below B w.drew w1) : w.heap.size ≤ w1.heap.size := hb.size
theorem drew_alloc_lt' {w w1 : World} {o : Obj} {B : Nat} (hb : Below B (w.alloc o).drew w1) : w.heap.size < w1.heap.size := by have := hb.size; simp at this; omega
theorem fresh_lt' (w : World) (o : Obj) : w.heap.size < (w.alloc o).drew.heap.size := by simp
section
variable {w wr w1 : World} {T : TypeId} {a b : Value}
theorem endA1 (hx : Box wr w.heap.size [a, b]) (hl : Below w.heap.size w wr) (hb : Below wr.drew.heap.size wr.drew w1) (V : Nat) (H : Int) :
    Box (w1.alloc (.cells #[.int .u64 V, .int .i64 H] T)) w.heap.size [a, b] ∧ Box (w1.alloc (.cells #[.int .u64 V, .int .i64 H] T)) w1.heap.size [.int .u64 V, .int .i64 H] ∧ Below w.heap.size w (w1.alloc (.cells #[.int .u64 V, .int .i64 H] T)) ∧ w.heap.size < w1.heap.size := by
  have h2 : Below w.heap.size w w1 := hl.drew.trans (hb.mono hl.size)
  have h3 := hx.lt
  have h4 := drew_lt' hb
  exact ⟨(hx.drew.below hb hx.lt).alloc _, Box.fresh _ _ _, h2.alloc (by omega) _, by omega⟩
theorem endB1 (hx : Box wr w.heap.size [a, b]) (hl : Below w.heap.size w wr) (hb : Below (wr.alloc (.cells #[.int .u64 0, .int .i64 0] T)).drew.heap.size (wr.alloc (.cells #[.int .u64 0, .int .i64 0] T)).drew w1) (V : Nat) (H : Int) :
    Box ((w1.setCell ⟨wr.heap.size, 0, none⟩ (.int .u64 V)).setCell ⟨wr.heap.size, 1, none⟩ (.int .i64 H)) w.heap.size [a, b] ∧ Box ((w1.setCell ⟨wr.heap.size, 0, none⟩ (.int .u64 V)).setCell ⟨wr.heap.size, 1, none⟩ (.int .i64 H)) wr.heap.size [.int .u64 V, .int .i64 H] ∧ Below w.heap.size w ((w1.setCell ⟨wr.heap.size, 0, none⟩ (.int .u64 V)).setCell ⟨wr.heap.size, 1, none⟩ (.int .i64 H)) ∧ w.heap.size < wr.heap.size := by
  have h3 := hx.lt
  have h2 : Below w.heap.size w w1 := (hl.alloc hl.size _).drew.trans (hb.mono (by simp; omega))
  exact ⟨(((hx.alloc _).drew.below hb (by simp; omega)).other (by simp; omega) _).other (by simp; omega) _, (((Box.fresh wr _ _).drew.below hb (by simp)).set 0 _).set 1 _, (h2.setCell (by simp; omega) _).setCell (by simp; omega) _, h3⟩
end
set_option maxHeartbeats 2000000 in
set_option maxRecDepth 100000 in
theorem implVarWithin_in (s : ByteArray) (A : Nat) (E : Int) (w : World) (hs : s.size ≤ 281474976710656) (hA : A ≤ s.size) :
    Calls Tryz.prog 133 #[.string s, .int .i64 A, .int .i64 E] w fun e w' => e = .returned (getV (withinR s A E)) ∧ Below w.heap.size w w' := by
  have HI := Lib.hid (WI.start (E := E) hA)
  generalize withinR s A E = R at HI ⊢
  have hA2 : (A : Int) ≤ (s.size : Int) := by omega
  go_enter Tryz.func133, Tryz.ntmps133
  go_wp2_with fail
  go_loopw [10] (fun i wr => ∃ (k V N : Nat), N ≤ s.size ∧ i = .int .i64 N ∧ Hid (WI s A E R k V N) ∧ Hid (Box wr w.heap.size [.int .u64 V, .int .i64 k]) ∧ Below w.heap.size w wr) (fun i _ => s.size - (intOf i).toNat)
  case atStart => exact ⟨0, 0, A, hA, rfl, HI, Lib.hid (Box.fresh _ _ _), (Below.refl _ _).alloc (Nat.le_refl _) _⟩
  case round =>
    obtain ⟨k, V, N, hN, rfl, HW, hbx, hbl⟩ := hrel
    obtain ⟨c0, c1, f0, f1⟩ := hbx.out.two
    have hz0 := hbx.out.lt
    by_cases hE : (N : Int) < E
    · by_cases hlt : N < s.size
      · have hch : s[N].toNat < 256 := s[N].toNat_lt
        have hne : ((N : Int) == (s.size : Int)) = false := by rw [Bool.eq_false_iff, ne_eq, beq_iff_eq]; omega
        generalize hS : scanByteR V k s[N].toNat = S
        obtain ⟨V', H', C'⟩ := S
        have HB := Lib.hid (HW.out.byte hE hlt hS)
        have HV := Lib.hid HW.out.wide
        have HS := Lib.hid hS; clear hS
        have hltb : (N : Int) < (s.size : Int) := by omega
        have hw8 : IntKind.i64.wrap (s[N].toNat : Int) = (s[N].toNat : Int) := IntWalk.i64_in _ (by omega)
        have HNe := Lib.hid hne
        go_wp2_with fail
        go_region_with (go_at_call 160; refine (implScanByte_any V k s[N].toNat HV.out _).mono ?_; rw [HS.out]; rintro e w1 ⟨rfl, hb1⟩; simp only [scV]; first | (obtain ⟨e0, e1, p0, p1⟩ := (hbx.out.drew.below hb1 hz0).two; have hq := drew_lt' hb1) | (obtain ⟨e0, e1, p0, p1⟩ := ((Box.fresh wr _ _).drew.below hb1 (fresh_lt' _ _)).two; have hq := drew_alloc_lt' hb1))
        all_goals
          first
          | (have KK := endA1 (T := 197) hbx.out hbl hb1 V' H'
             obtain ⟨K0, K2, hB, hg⟩ := KK
             generalize w1.alloc (.cells #[.int .u64 V', .int .i64 H'] 197) = w2 at K0 K2 hB ⊢
             generalize w1.heap.size = g at K2 hg ⊢)
          | (have KK := endB1 (T := 197) hbx.out hbl hb1 V' H'
             obtain ⟨K0, K2, hB, hg⟩ := KK
             generalize (w1.setCell ⟨wr.heap.size, 0, none⟩ (.int .u64 V')).setCell ⟨wr.heap.size, 1, none⟩ (.int .i64 H') = w2 at K0 K2 hB ⊢
             generalize wr.heap.size = g at K2 hg ⊢)
        all_goals
          obtain ⟨e0, e1, p0, p1⟩ := K0.two
          obtain ⟨e4, e5, p4, p5⟩ := K2.two
          have HK0 := Lib.hid K0
          clear K0 K2
          rcases HB.out with ⟨rfl, hR⟩ | ⟨rfl, hR⟩ | ⟨rfl, rfl, hW⟩
          · have HR := Lib.hid hR; clear hR
            go_wp2_with fail
            go_ret3
            refine ⟨by rw [HR.out]; rfl, ?_⟩
            repeat (first | exact hB | refine Below.setCell ?_ (by simp) _)
          · have HR := Lib.hid hR; clear hR
            go_wp2_with fail
            go_ret3
            refine ⟨by rw [HR.out]; rfl, ?_⟩
            repeat (first | exact hB | refine Below.setCell ?_ (by simp) _)
          · have HW' := Lib.hid hW; clear hW
            go_wp2_with fail
            refine ⟨⟨_, _, _, .int .i64 ((N : Int) + 1), ⟨k + 1, V', N + 1, by omega, by go_num, HW', Lib.hid ((HK0.out.set 0 _).set 1 _), ?_⟩, rfl, rfl, rfl, rfl⟩, by simp [intOf]; omega⟩
            repeat (first | exact hB | refine Below.setCell ?_ (by simp) _)
      · have hks : N = s.size := by omega
        have heq : ((N : Int) == (s.size : Int)) = true := by rw [beq_iff_eq]; omega
        have HR := Lib.hid (HW.out.cut hE hks)
        clear hks
        go_wp2_with fail
        go_ret3
        refine ⟨by rw [HR.out]; rfl, ?_⟩
        repeat (first | exact hbl | refine Below.drew ?_ | refine Below.setCell ?_ (by simp) _ | refine Below.alloc ?_ (by simp <;> omega) _)
    · have HR := Lib.hid (HW.out.ended (by omega))
      go_wp2_with fail
      go_ret3
      refine ⟨by rw [HR.out]; rfl, ?_⟩
      repeat (first | exact hbl | refine Below.drew ?_ | refine Below.setCell ?_ (by simp) _ | refine Below.alloc ?_ (by simp <;> omega) _)
theorem implVarWithin_out (s : ByteArray) (a E : Int) (w : World) (hA : ¬ (0 ≤ a ∧ a ≤ s.size)) :
    Calls Tryz.prog 133 #[.string s, .int .i64 a, .int .i64 E] w fun e w' => e = .returned (getV (withinR s a E)) ∧ Below w.heap.size w w' := by
  have Hr := Lib.hid (within_out (e := E) hA)
  by_cases h0 : a < 0
  · go_enter Tryz.func133, Tryz.ntmps133
    go_wp2_with fail
    go_ret3
    exact ⟨by rw [Hr.out]; rfl, Below.refl _ _⟩
  · have h1 : (s.size : Int) < a := by omega
    go_enter Tryz.func133, Tryz.ntmps133
    go_wp2_with fail
    go_ret3
    exact ⟨by rw [Hr.out]; rfl, Below.refl _ _⟩
theorem implVarWithin_any (s : ByteArray) (a E : Int) (w : World) (hs : s.size ≤ 281474976710656) :
    Calls Tryz.prog 133 #[.string s, .int .i64 a, .int .i64 E] w fun e w' => e = .returned (getV (withinR s a E)) ∧ Below w.heap.size w w' := by
  by_cases hA : 0 ≤ a ∧ a ≤ (s.size : Int)
  · obtain ⟨A, rfl⟩ := Int.eq_ofNat_of_zero_le hA.1
    exact implVarWithin_in s A E w hs (by have := hA.2; omega)
  · exact implVarWithin_out s a E w hA
end Go.Proofs.YtpkofbdfnbpfpaaGreat.Num


/-
  The bytes of PutFix, plainly.
-/
namespace Go.Proofs.YtpkofbdfnbpfpaaGreat.Num
set_option linter.unusedVariables false
end Go.Proofs.YtpkofbdfnbpfpaaGreat.Num


/-
  The walk of the program's PutFix: it gives the plain bytes; only new memory is written.
-/
namespace Go.Proofs.YtpkofbdfnbpfpaaGreat.Num
open Go.RowKit Go.Proofs
set_option linter.unusedVariables false
theorem implWidth_yes (n : Int) (hn : n = 4 ∨ n = 8) (w : World) : Calls Tryz.prog 161 #[.int .i64 n] w fun e w' => e = .returned (.bool true) ∧ w = w' := by
  rcases hn with rfl | rfl
  all_goals
    go_enter Tryz.func161, Tryz.ntmps161
    go_wp2_with fail
    go_ret
    exact ⟨rfl, rfl⟩
theorem implWidth_no (n : Int) (hn : ¬ (n = 4 ∨ n = 8)) (w : World) : Calls Tryz.prog 161 #[.int .i64 n] w fun e w' => e = .returned (.bool false) ∧ w = w' := by
  have h4b : (n == 4) = false := by rw [beq_eq_false_iff_ne]; omega
  have h8b : (n == 8) = false := by rw [beq_eq_false_iff_ne]; omega
  clear hn
  go_enter Tryz.func161, Tryz.ntmps161
  go_wp2_with fail
  go_ret
  exact ⟨rfl, rfl⟩
end Go.Proofs.YtpkofbdfnbpfpaaGreat.Num


/-
  The walks of PutFix, the reference's and the program's: they give the little-endian bytes; only new memory is written.
-/
namespace Go.Proofs.YtpkofbdfnbpfpaaGreat.Num
open Go.RowKit Go.Proofs
end Go.Proofs.YtpkofbdfnbpfpaaGreat.Num


/-
  The walk of the program's FixByte: it gives what the reference's gives; only new memory is written.
-/
namespace Go.Proofs.YtpkofbdfnbpfpaaGreat.Num
open Go.RowKit Go.Proofs
theorem fixWrap (b k X : Nat) (hX : X ≤ 255) : IntKind.u64.wrap ((b : Int) + IntKind.u64.wrap (IntKind.u64.wrap (X : Int) * 2 ^ (8 * k))) = IntKind.u64.wrap ((b : Int) + IntKind.u64.wrap ((X : Int) * 2 ^ (8 * k))) := by
  rw [show IntKind.u64.wrap (X : Int) = (X : Int) by rw [IntKind.wrap_u64]; omega]
theorem implIsByte_yes (x : Int) (hx : 0 ≤ x ∧ x ≤ 255) (w : World) : Calls Tryz.prog 182 #[.int .i64 x] w fun e w' => e = .returned (.bool true) ∧ w = w' :=
  (implIsByte_any x w).mono fun e w' ⟨he, hw⟩ => ⟨by rw [he, decide_eq_true hx], hw⟩
theorem implIsByte_no (x : Int) (hx : ¬ (0 ≤ x ∧ x ≤ 255)) (w : World) : Calls Tryz.prog 182 #[.int .i64 x] w fun e w' => e = .returned (.bool false) ∧ w = w' :=
  (implIsByte_any x w).mono fun e w' ⟨he, hw⟩ => ⟨by rw [he, decide_eq_false hx], hw⟩
set_option maxHeartbeats 1000000 in
set_option maxRecDepth 100000 in
theorem implFixByte_any (b : Nat) (h x : Int) (w : World) :
    Calls Tryz.prog 162 #[scV b h, .int .i64 x] w fun e w' => e = .returned (.agg #[.int .u64 (fixByteR b h x).1, .int .i64 (fixByteR b h x).2]) ∧ Below w.heap.size w w' := by
  unfold scV
  generalize hR : fixByteR b h x = R
  have HR := Lib.hid hR; clear hR
  by_cases h7 : 0 ≤ h ∧ h ≤ 7
  · obtain ⟨k, rfl⟩ := Int.eq_ofNat_of_zero_le h7.1
    have hk : k ≤ 7 := by omega
    have h0d : decide ((k : Int) < 0) = false := decide_eq_false (by omega)
    have h7d : decide ((7 : Int) < (k : Int)) = false := decide_eq_false (by omega)
    by_cases hx : 0 ≤ x ∧ x ≤ 255
    · have Hx := Lib.hid hx
      obtain ⟨X, rfl⟩ := Int.eq_ofNat_of_zero_le hx.1
      have hX : X ≤ 255 := by omega
      have Hw := Lib.hid (fixWrap b k X hX)
      obtain rfl : R = (IntKind.u64.wrap ((b : Int) + IntKind.u64.wrap ((X : Int) * 2 ^ (8 * k))), (k : Int) + 1) := by
        rw [← HR.out]; unfold fixByteR; rw [if_pos ⟨h7, hx⟩, Int.toNat_natCast]
      clear h7 hx
      go_enter Tryz.func162, Tryz.ntmps162
      go_wp2_with fail
      refine (implIsByte_yes _ Hx.out _).mono ?_
      rintro e w3 ⟨rfl, rfl⟩
      go_wp2_with fail
      go_region
      go_wp2_with fail
      refine bodyPost_ret (v := .agg #[.int .u64 (IntKind.u64.wrap ((b : Int) + IntKind.u64.wrap ((X : Int) * 2 ^ (8 * k)))), .int .i64 ((k : Int) + 1)]) (by simp [results, Tryz.results162, go_sem]) rfl ⟨rfl, ?_⟩
      repeat (first | exact Below.refl _ _ | refine Below.drew ?_ | refine Below.setCell ?_ (by simp) _ | refine Below.alloc ?_ (by simp <;> omega) _)
    · have Hx := Lib.hid hx
      obtain rfl : R = ((b : Int), (k : Int)) := by rw [← HR.out]; exact fixByteR_no (fun h => hx h.2)
      clear hx
      go_enter Tryz.func162, Tryz.ntmps162
      go_wp2_with fail
      refine (implIsByte_no _ Hx.out _).mono ?_
      rintro e w3 ⟨rfl, rfl⟩
      go_wp2_with fail
      refine bodyPost_ret (v := .agg #[.int .u64 b, .int .i64 k]) (by simp [results, Tryz.results162, go_sem]) rfl ⟨rfl, ?_⟩
      repeat (first | exact Below.refl _ _ | refine Below.drew ?_ | refine Below.setCell ?_ (by simp) _ | refine Below.alloc ?_ (by simp <;> omega) _)
  · obtain rfl : R = ((b : Int), h) := by rw [← HR.out]; exact fixByteR_no (fun h => h7 h.1)
    by_cases h0 : h < 0
    · go_enter Tryz.func162, Tryz.ntmps162
      go_wp2_with fail
      refine bodyPost_ret (v := .agg #[.int .u64 b, .int .i64 h]) (by simp [results, Tryz.results162, go_sem]) rfl ⟨rfl, ?_⟩
      repeat (first | exact Below.refl _ _ | refine Below.drew ?_ | refine Below.setCell ?_ (by simp) _ | refine Below.alloc ?_ (by simp <;> omega) _)
    · have h7' : 7 < h := by omega
      have h0d : decide (h < 0) = false := decide_eq_false h0
      go_enter Tryz.func162, Tryz.ntmps162
      go_wp2_with fail
      refine bodyPost_ret (v := .agg #[.int .u64 b, .int .i64 h]) (by simp [results, Tryz.results162, go_sem]) rfl ⟨rfl, ?_⟩
      repeat (first | exact Below.refl _ _ | refine Below.drew ?_ | refine Below.setCell ?_ (by simp) _ | refine Below.alloc ?_ (by simp <;> omega) _)
end Go.Proofs.YtpkofbdfnbpfpaaGreat.Num


/-
  The walk of the program's GetFix (the reference's: GetFixS): it gives the value of the little-endian bytes; only new memory is written.
-/
namespace Go.Proofs.YtpkofbdfnbpfpaaGreat.Num
open Go.RowKit Go.Proofs
set_option linter.unusedVariables false

/-- FixByte in a run of bytes. -/
theorem fixStep (l : List UInt8) (c : UInt8) (h : l.length ≤ 7) : fixByteR (Fix.le l) (l.length : Int) (c.toNat : Int) = (((Fix.le (l ++ [c]) : Nat) : Int), ((l ++ [c]).length : Int)) := by
  have hc := c.toNat_lt
  have h1 := Fix.le_lt l
  have h3 := Nat.pow_le_pow_right (n := 256) (by omega) h
  have h4 : (256 : Nat) ^ 7 = 72057594037927936 := rfl
  unfold fixByteR
  rw [if_pos ⟨by omega, by omega⟩, Int.toNat_natCast, Fix.le_snoc, List.length_append]
  have e : (c.toNat : Int) * 2 ^ (8 * l.length) = ((c.toNat * 256 ^ l.length : Nat) : Int) := by rw [← Fix.pow_256]; simp
  have h5 : c.toNat * 256 ^ l.length ≤ 255 * 256 ^ l.length := Nat.mul_le_mul_right _ (by omega)
  rw [e]
  generalize c.toNat * 256 ^ l.length = q at h5
  generalize 256 ^ l.length = z at h1 h3 h5
  rw [IntKind.wrap_u64, IntKind.wrap_u64]
  simp only [Prod.mk.injEq, List.length_cons, List.length_nil]
  omega
set_option maxHeartbeats 1000000 in
set_option maxRecDepth 100000 in
theorem implGetFix_in (s : ByteArray) (A N : Nat) (w : World) (hs : s.size ≤ 281474976710656) (hN : N = 4 ∨ N = 8) (hA : A + N ≤ s.size) :
    Calls Tryz.prog 134 #[.string s, .int .i64 A, .int .i64 N] w fun e w' => e = .returned (.tuple #[.int .u64 (Fix.le ((s.data.toList.drop A).take N)), .bool true]) ∧ Below w.heap.size w w' := by
  have HN : Hid ((N : Int) = 4 ∨ (N : Int) = 8) := Lib.hid (by omega)
  have hN8 : N ≤ 8 := by omega
  have hN4 : 4 ≤ N := by omega
  have hd1 : decide ((A : Int) < 0) = false := decide_eq_false (by omega)
  have hd2 : decide ((s.size : Int) - (N : Int) < (A : Int)) = false := decide_eq_false (by omega)
  clear hN
  go_enter Tryz.func134, Tryz.ntmps134
  go_wp2_with fail
  refine (implWidth_yes _ HN.out _).mono ?_
  rintro e w1 ⟨rfl, rfl⟩
  go_wp2_with fail
  clear hd1 hd2
  go_loopw [27] (fun i wr => ∃ (k : Nat) (l : List UInt8), k ≤ N ∧ i = .int .i64 k ∧ Hid (l = (s.data.toList.drop A).take k) ∧ Hid (l.length = k) ∧ Hid (Box wr w.heap.size [.int .u64 ((Fix.le l : Nat) : Int), .int .i64 k]) ∧ Below w.heap.size w wr) (fun i _ => N - (intOf i).toNat)
  case atStart => exact ⟨0, [], by omega, rfl, Lib.hid rfl, Lib.hid rfl, Lib.hid (Box.fresh _ _ _), (Below.refl _ _).alloc (Nat.le_refl _) _⟩
  case round =>
    obtain ⟨k, l, hk, rfl, hl, hll, hbx, hbl⟩ := hrel
    by_cases hlt : k < N
    · obtain ⟨c0, c1, f0, f1⟩ := hbx.out.two
      have hz0 := hbx.out.lt
      have hend : A + k < s.size := by omega
      have hc : s[A + k].toNat < 256 := s[A + k].toNat_lt
      have hlt1 : (A : Int) + (k : Int) < (s.size : Int) := by omega
      have hlt0 : (0 : Int) ≤ (A : Int) + (k : Int) := by omega
      have hltN : (k : Int) < (N : Int) := by omega
      have hnat : ((A : Int) + (k : Int)).toNat = A + k := by omega
      have hw1 : IntKind.i64.wrap ((A : Int) + (k : Int)) = (A : Int) + (k : Int) := IntWalk.i64_in _ (by omega)
      have hw8 : IntKind.i64.wrap (s[A + k].toNat : Int) = (s[A + k].toNat : Int) := IntWalk.i64_in _ (by omega)
      have Hnext : Hid (l ++ [s[A + k]] = (s.data.toList.drop A).take (k + 1)) := Lib.hid (by
        rw [hl.out, List.take_succ_eq_append_getElem (by simp; omega)]
        congr 2
        simp [List.getElem_drop]; rfl)
      have Hst : Hid (fixByteR (Fix.le l) (k : Int) (s[A + k].toNat : Int) = (((Fix.le (l ++ [s[A + k]]) : Nat) : Int), ((k : Int) + 1))) := Lib.hid (by
        have h := fixStep l s[A + k] (by rw [hll.out]; omega)
        rw [hll.out] at h
        rw [h, List.length_append, hll.out]; rfl)
      obtain ⟨V', hV'⟩ : ∃ V' : Nat, V' = Fix.le (l ++ [s[A + k]]) := ⟨_, rfl⟩
      obtain ⟨V, hV⟩ : ∃ V : Nat, V = Fix.le l := ⟨_, rfl⟩
      rw [← hV', ← hV] at Hst
      rw [← hV] at hbx c0
      have HV' := Lib.hid hV'
      have Hsn := Lib.hid (show (l ++ [s[A + k]]).length = k + 1 by rw [List.length_append, hll.out]; rfl)
      clear hV' hV hl
      go_wp2_with fail
      go_region_with (go_at_call 162; refine (implFixByte_any V (k : Int) s[A + k].toNat _).mono ?_; rw [Hst.out]; rintro e w1 ⟨rfl, hb1⟩; obtain ⟨e0, e1, p0, p1⟩ := (hbx.out.drew.below hb1 hz0).two)
      all_goals
        go_wp2_with fail
        refine ⟨⟨k + 1, _, by omega, by go_num, Hnext, Hsn, Lib.hid ?_, ?_⟩, by simp [intOf] <;> omega⟩
        · rw [← HV'.out]; exact ((hbx.out.drew.below hb1 hz0).set 0 _).set 1 _
        · have hb2 : Below w.heap.size w w1 := hbl.drew.trans (hb1.mono hbl.size)
          repeat (first | exact hb2 | refine Below.setCell ?_ (by simp) _)
    · have hkN : Hid (k = N) := Lib.hid (by omega)
      have hend : decide (k < N) = false := decide_eq_false hlt
      have hge : (N : Int) ≤ (k : Int) := by omega
      have hbx2 := hbx
      have HV : Hid (Fix.le l = Fix.le ((s.data.toList.drop A).take N)) := Lib.hid (by rw [hl.out, hkN.out])
      generalize Fix.le l = V at hbx2 HV
      obtain ⟨c0, c1, f0, f1⟩ := hbx2.out.two
      go_wp2_with fail
      go_ret2
      exact ⟨by rw [← HV.out]; rfl, hbl⟩
theorem implGetFix_out (s : ByteArray) (a n : Int) (w : World) (hs : s.size ≤ 281474976710656) (hn : -9223372036854775808 ≤ n ∧ n ≤ 9223372036854775807) (h : ¬ ((n = 4 ∨ n = 8) ∧ 0 ≤ a ∧ a ≤ s.size - n)) :
    Calls Tryz.prog 134 #[.string s, .int .i64 a, .int .i64 n] w fun e w' => e = .returned (.tuple #[.int .u64 0, .bool false]) ∧ Below w.heap.size w w' := by
  by_cases hw : n = 4 ∨ n = 8
  · have Hw := Lib.hid hw
    by_cases h0 : a < 0
    · clear h hw
      go_enter Tryz.func134, Tryz.ntmps134
      go_wp2_with fail
      refine (implWidth_yes _ Hw.out _).mono ?_
      rintro e w1 ⟨rfl, rfl⟩
      go_wp2_with fail
      go_ret2
      exact ⟨rfl, Below.refl _ _⟩
    · have h1 : (s.size : Int) - n < a := by omega
      have h0d : decide (a < 0) = false := decide_eq_false h0
      have hn8 : n ≤ 8 := by omega
      have hn4 : 4 ≤ n := by omega
      have h1d : decide ((s.size : Int) - n < a) = true := decide_eq_true h1
      clear h hw hn
      go_enter Tryz.func134, Tryz.ntmps134
      go_wp2_with fail
      refine (implWidth_yes _ Hw.out _).mono ?_
      rintro e w1 ⟨rfl, rfl⟩
      go_wp2_with fail
      go_ret2
      exact ⟨rfl, Below.refl _ _⟩
  · have Hw := Lib.hid hw
    clear h hw
    go_enter Tryz.func134, Tryz.ntmps134
    go_wp2_with fail
    refine (implWidth_no _ Hw.out _).mono ?_
    rintro e w1 ⟨rfl, rfl⟩
    go_wp2_with fail
    go_ret2
    exact ⟨rfl, Below.refl _ _⟩
theorem implGetFix_any (s : ByteArray) (a n : Int) (w : World) (hs : s.size ≤ 281474976710656) (hn : -9223372036854775808 ≤ n ∧ n ≤ 9223372036854775807) :
    Calls Tryz.prog 134 #[.string s, .int .i64 a, .int .i64 n] w fun e w' => e = .returned (.tuple #[.int .u64 (getFixR s a n).1, .bool (getFixR s a n).2]) ∧ Below w.heap.size w w' := by
  by_cases h : (n = 4 ∨ n = 8) ∧ 0 ≤ a ∧ a ≤ s.size - n
  · rw [getFix_yes h]
    obtain ⟨N, rfl⟩ := Int.eq_ofNat_of_zero_le (show 0 ≤ n by omega)
    obtain ⟨A, rfl⟩ := Int.eq_ofNat_of_zero_le h.2.1
    rw [Int.toNat_natCast, Int.toNat_natCast]
    exact implGetFix_in s A N w hs (by omega) (by omega)
  · rw [getFix_no h]
    exact implGetFix_out s a n w hs hn h
end Go.Proofs.YtpkofbdfnbpfpaaGreat.Num

