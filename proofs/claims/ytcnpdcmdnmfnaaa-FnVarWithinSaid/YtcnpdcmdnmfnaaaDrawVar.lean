/-
  The walks of the reference's DrawPutVar, DrawPadVar and l2Var: each gives some number or short string; nothing that was there is written but the cursor.
-/
import Derived.Test.YtcnpdcmdnmfnaaaVar
import Derived.Test.YtcnpdcmdnmfnaaaDrawOnce
import Derived.Test.YtcnpdcmdnmfnaaaDrawWide
namespace Go.Proofs.Ytcnpdcmdnmfnaaa.Num
open Go.RowKit Go.Proofs

theorem varS_size (u : Nat) (hu : u ≤ 18446744073709551615) : (varS u).size ≤ 10 := by
  have := Var.varLen_64 hu
  unfold varS ByteArray.size; simp only [List.size_toArray, Var.put_length]; exact this
theorem padS_size (u : Nat) (n : Int) : (padS u n).size ≤ 10 := by
  unfold padS
  split
  · unfold ByteArray.size; simp only [List.size_toArray, Var.enc_length]; omega
  · exact Nat.zero_le _
set_option maxHeartbeats 400000 in
theorem l2Var_any (B g : Nat) (a : Option Addr) (len cap : Nat) (u : Nat) (w : World) (h : Cur w B g a len cap) (hB : B ≤ w.heap.size) (hg : g < w.heap.size) (hu : u ≤ 18446744073709551615) :
    Calls Try.prog 40 #[.pointer (some ⟨g, 0, none⟩), .int .u64 u] w fun e w' => ∃ s : ByteArray, s.size ≤ 10 ∧ e = .returned (.string s) ∧ Cur w' B g a len cap ∧ Off w.heap.size g w w' := by
  have H := Lib.hid h; clear h
  have HU := Lib.hid hu
  have hl0 := Var.varLen_64 hu
  go_enter Try.func40, Try.ntmps40
  go_wp2_with fail
  refine (l1Once_any B g a len cap _ _ H.out (by omega)).mono ?_
  rintro e w1 ⟨b, rfl, hc1, ho1⟩
  have Hc1 := Lib.hid hc1; clear hc1
  have hf1 : Off w.heap.size g w w1 := Only.off ho1 (Nat.le_refl _)
  have hz1 := ho1.size
  clear ho1
  have tail : ∀ w2, Hid (Cur w2 B g a len cap) → Off w.heap.size g w w2 → w.heap.size ≤ w2.heap.size → Calls Try.prog 53 #[.int .u64 u] w2 fun e w' => e = .returned (.string (varS u)) ∧ Cur w' B g a len cap ∧ Off w.heap.size g w w' := fun w2 hc hf hz => (specPutVar_any u w2 HU.out).mono fun e w' ⟨he, hb⟩ => ⟨he, hc.out.other hb (by omega) (by omega), hf.trans (Below.off (hb.mono hz))⟩
  have Htail := Lib.hid tail; clear tail
  cases b with
  | false =>
    go_wp2_with fail
    refine (Htail.out _ Hc1 hf1 hz1).mono ?_
    rintro e w2 ⟨rfl, hc2, hf2⟩
    have Hc2 := Lib.hid hc2; clear hc2
    go_wp2_with fail
    go_ret
    exact ⟨_, varS_size u HU.out, rfl, Hc2.out, hf2⟩
  | true =>
    go_wp2_with fail
    refine (specVarLen_any u _ HU.out).mono ?_
    rintro e w2 ⟨rfl, hb2⟩
    have Hc2 : Hid (Cur w2 B g a len cap) := Lib.hid (Hc1.out.other hb2 (by omega) (by omega))
    have hf2 := hf1.trans (Below.off (hb2.mono hz1))
    have hz2 := hb2.size
    clear hb2
    go_wp2_with fail
    refine (l1Below_any B g a len cap _ _ Hc2.out (by omega)).mono ?_
    rintro e w3 ⟨r, r0, r1, rfl, hc3, ho3⟩
    have hr : r < 3 := r1 (by omega)
    have Hc3 := Lib.hid hc3; clear hc3
    have hf3 := hf2.trans (Only.off ho3 (by omega))
    have hz3 := ho3.size
    clear r1 ho3
    have hw : IntKind.i64.wrap ((Var.varLen u : Int) + r) = (Var.varLen u : Int) + r := IntWalk.i64_in _ (by omega)
    go_wp2_with fail
    refine (specPadVar_any u _ _ HU.out).mono ?_
    rintro e w4 ⟨rfl, hb4⟩
    have Hc4 : Hid (Cur w4 B g a len cap) := Lib.hid (Hc3.out.other hb4 (by omega) (by omega))
    have hf4 := hf3.trans (Below.off (hb4.mono (by omega)))
    have hz4 := hb4.size
    have Hps := Lib.hid (padS_size u ((Var.varLen u : Int) + r))
    generalize padS u ((Var.varLen u : Int) + r) = t at Hps
    clear hb4
    cases ht : t.toList.isEmpty with
    | true =>
      go_wp2_with fail
      refine (Htail.out _ Hc4 hf4 (by omega)).mono ?_
      rintro e w2 ⟨rfl, hc2, hf2⟩
      have Hc5 := Lib.hid hc2; clear hc2
      go_wp2_with fail
      go_ret
      exact ⟨_, varS_size u HU.out, rfl, Hc5.out, hf2⟩
    | false =>
      go_wp2_with fail
      go_ret
      exact ⟨_, Hps.out, rfl, Hc4.out, hf4⟩
end Go.Proofs.Ytcnpdcmdnmfnaaa.Num
