/-
  The walks of the laws' markEventS and heldEventS: a list of events of the call's own marked cell by cell, and found so again; no other block is written.
-/
import Derived.Test.YteplmjlllnbiiaaMarkText
import Derived.Test.YteplmjlllnbiiaaOwnEv
import Derived.Test.YteplmjlllnbiiaaToEv
import Derived.Deep.QuietTactic
import Derived.BigQuiet
import Derived.Deep.DeepCutAuto
import Derived.Deep.RegionWith
namespace Go.Proofs.Yteplmjlllnbiiaa.Num
open Go.RowKit Go.Proofs
set_option linter.unusedVariables false
set_option linter.unusedSimpArgs false

/-- What the j-th cell of a marked list of events holds, the marks counted from k. -/
def mev (k : Int) (j : Nat) : Value := if j % 7 = 2 then .int .u64 (k + (j : Int)) else if j % 7 = 4 then .string (markB (k + (j : Int)).toNat) else .int .i64 (k + (j : Int))
def MarkedE (w : World) (g : Nat) (k : Int) (m : Nat) : Prop := ∀ j, j < m → w.cell? ⟨g, j, none⟩ = some (mev k j)
theorem MarkedE.set {w : World} {g : Nat} {k : Int} {m : Nat} (h : MarkedE w g k m) (hx : ∃ v, w.cell? ⟨g, m, none⟩ = some v) : MarkedE (w.setCell ⟨g, m, none⟩ (mev k m)) g k (m + 1) := fun j hj => by
  by_cases e : m = j
  · subst e; obtain ⟨v, hv⟩ := hx; exact World.cell?_setCell_same _ _ _ hv
  · rw [World.cell?_setCell_other _ _ _ _ (by intro h; injection h with _ h; exact e h)]; exact h j (by omega)
theorem MarkedE.below {w w' : World} {g m B : Nat} {k : Int} (h : MarkedE w g k m) (hb : Below B w w') (hg : g < B) : MarkedE w' g k m := fun j hj => (hb.cell (p := ⟨g, j, none⟩) hg).trans (h j hj)
theorem mev0 (k : Int) (i : Nat) : mev k (i * 7) = .int .i64 (k + 7 * (i : Int)) := by unfold mev; rw [if_neg (by omega), if_neg (by omega)]; congr 1; push_cast; omega
theorem mev1 (k : Int) (i : Nat) : mev k (i * 7 + 1) = .int .i64 (k + 7 * (i : Int) + 1) := by unfold mev; rw [if_neg (by omega), if_neg (by omega)]; congr 1; push_cast; omega
theorem mev2 (k : Int) (i : Nat) : mev k (i * 7 + 2) = .int .u64 (k + 7 * (i : Int) + 1 + 1) := by unfold mev; rw [if_pos (by omega)]; congr 1; push_cast; omega
theorem mev3 (k : Int) (i : Nat) : mev k (i * 7 + 3) = .int .i64 (k + 7 * (i : Int) + 1 + 1 + 1) := by unfold mev; rw [if_neg (by omega), if_neg (by omega)]; congr 1; push_cast; omega
theorem mev4 (k : Int) (i : Nat) : mev k (i * 7 + 4) = .string (markB (k + 7 * (i : Int) + 1 + 1 + 1 + 1).toNat) := by unfold mev; rw [if_neg (by omega), if_pos (by omega)]; congr 3; push_cast; omega
theorem mev5 (k : Int) (i : Nat) : mev k (i * 7 + 5) = .int .i64 (k + 7 * (i : Int) + 1 + 1 + 1 + 1 + 1) := by unfold mev; rw [if_neg (by omega), if_neg (by omega)]; congr 1; push_cast; omega
theorem mev6 (k : Int) (i : Nat) : mev k (i * 7 + 6) = .int .i64 (k + 7 * (i : Int) + 1 + 1 + 1 + 1 + 1 + 1) := by unfold mev; rw [if_neg (by omega), if_neg (by omega)]; congr 1; push_cast; omega
theorem Fill.at {w : World} {g m j : Nat} (h : Fill w g m) (hj : j < m) : ∃ v, w.cell? ⟨g, j, none⟩ = some v ∧ w.frozen? ⟨g, j, none⟩ = false := by
  obtain ⟨⟨v, hv⟩, hf⟩ := h.2 j hj
  exact ⟨v, hv, hf⟩
theorem markText_int (k : Int) (w : World) (h1 : 1 ≤ k) (h2 : k ≤ 9223372036854775807) :
    Calls Try.prog 50 #[.int .i64 k] w fun e w' => e = .returned (.string (markB k.toNat)) ∧ Below w.heap.size w w' := by
  obtain ⟨n, rfl⟩ := Int.eq_ofNat_of_zero_le (show 0 ≤ k by omega)
  have h := markText_any n w (by omega) (by omega)
  simpa using h
set_option maxHeartbeats 8000000 in
theorem markEvs_any (g n cap : Nat) (k : Int) (w : World) (hf : Fill w g (n * 7)) (hn : n ≤ 4194304) (hk : 1 ≤ k ∧ k ≤ 1000000000000000) :
    Calls Try.prog 28 #[.slice (some ⟨g, 0, none⟩) n cap, .int .i64 k] w fun e w' => e = .returned (.int .i64 (k + 7 * (n : Int))) ∧ MarkedE w' g k (n * 7) ∧ Fill w' g (n * 7) ∧ w.grownBy w' (some g) := by
  have HF := Lib.hid hf
  clear hf
  go_enter Try.func28, Try.ntmps28
  go_wp2_with fail
  go_loopw [1, 5] (fun kk ii wr => ∃ i : Nat, i ≤ n ∧ kk = .int .i64 (k + 7 * (i : Int)) ∧ ii = .int .i64 i ∧ Hid (MarkedE wr g k (i * 7)) ∧ Hid (Fill wr g (n * 7)) ∧ Hid (w.grownBy wr (some g))) (fun _ ii _ => n - (intOf ii).toNat)
  case atStart => exact ⟨0, by omega, by simp, rfl, Lib.hid fun j hj => by omega, HF, Lib.hid ⟨rfl, rfl, rfl, Nat.le_refl _, fun _ _ _ => rfl⟩⟩
  case round =>
    obtain ⟨i, hi, rfl, rfl, hm, hf, hg⟩ := hrel
    by_cases hlt : i < n
    · have hlti : (i : Int) < (n : Int) := by omega
      have w1 : IntKind.i64.wrap (k + 7 * (i : Int) + 1) = k + 7 * (i : Int) + 1 := IntWalk.i64_in _ (by omega)
      have w2 : IntKind.i64.wrap (k + 7 * (i : Int) + 1 + 1) = k + 7 * (i : Int) + 1 + 1 := IntWalk.i64_in _ (by omega)
      have w3 : IntKind.i64.wrap (k + 7 * (i : Int) + 1 + 1 + 1) = k + 7 * (i : Int) + 1 + 1 + 1 := IntWalk.i64_in _ (by omega)
      have w4 : IntKind.i64.wrap (k + 7 * (i : Int) + 1 + 1 + 1 + 1) = k + 7 * (i : Int) + 1 + 1 + 1 + 1 := IntWalk.i64_in _ (by omega)
      have w5 : IntKind.i64.wrap (k + 7 * (i : Int) + 1 + 1 + 1 + 1 + 1) = k + 7 * (i : Int) + 1 + 1 + 1 + 1 + 1 := IntWalk.i64_in _ (by omega)
      have w6 : IntKind.i64.wrap (k + 7 * (i : Int) + 1 + 1 + 1 + 1 + 1 + 1) = k + 7 * (i : Int) + 1 + 1 + 1 + 1 + 1 + 1 := IntWalk.i64_in _ (by omega)
      have w7 : IntKind.i64.wrap (k + 7 * (i : Int) + 1 + 1 + 1 + 1 + 1 + 1 + 1) = k + 7 * (i : Int) + 1 + 1 + 1 + 1 + 1 + 1 + 1 := IntWalk.i64_in _ (by omega)
      have u2 : IntKind.u64.wrap (k + 7 * (i : Int) + 1 + 1) = k + 7 * (i : Int) + 1 + 1 := IntWalk.u64_in _ (by omega)
      have hkb : 1 ≤ k + 7 * (i : Int) + 1 + 1 + 1 + 1 ∧ k + 7 * (i : Int) + 1 + 1 + 1 + 1 ≤ 9223372036854775807 := by omega
      have HT := Lib.hid (markText_int (k + 7 * (i : Int) + 1 + 1 + 1 + 1) · hkb.1 hkb.2)
      have hknext : k + 7 * ((i + 1 : Nat) : Int) = k + 7 * (i : Int) + 1 + 1 + 1 + 1 + 1 + 1 + 1 := by push_cast; omega
      obtain ⟨v0, a0, b0⟩ := hf.out.at (j := i * 7) (by omega)
      obtain ⟨v1, a1, b1⟩ := hf.out.at (j := i * 7 + 1) (by omega)
      obtain ⟨v2, a2, b2⟩ := hf.out.at (j := i * 7 + 2) (by omega)
      obtain ⟨v3, a3, b3⟩ := hf.out.at (j := i * 7 + 3) (by omega)
      have F0 := hf.out
      have F1 := F0.set (i * 7) (mev k (i * 7))
      have F2 := F1.set (i * 7 + 1) (mev k (i * 7 + 1))
      have F3 := F2.set (i * 7 + 2) (mev k (i * 7 + 2))
      have F4 := Lib.hid (F3.set (i * 7 + 3) (mev k (i * 7 + 3)))
      have M4 := Lib.hid ((((hm.out.set (F0.2 _ (by omega)).1).set (F1.2 _ (by omega)).1).set (F2.2 _ (by omega)).1).set (F3.2 _ (by omega)).1)
      have G4 : Hid (w.grownBy ((((wr.setCell ⟨g, i * 7, none⟩ (mev k (i * 7))).setCell ⟨g, i * 7 + 1, none⟩ (mev k (i * 7 + 1))).setCell ⟨g, i * 7 + 2, none⟩ (mev k (i * 7 + 2))).setCell ⟨g, i * 7 + 3, none⟩ (mev k (i * 7 + 3))) (some g)) := Lib.hid (Only.setCell (Only.setCell (Only.setCell (Only.setCell hg.out _ _) _ _) _ _) _ _)
      rw [mev0, mev1, mev2, mev3] at F4 M4 G4
      clear F0 F1 F2 F3
      obtain ⟨K, hK⟩ : ∃ K : Int, k + 7 * (i : Int) = K := ⟨_, rfl⟩
      have hm4 := mev4 k i
      have hm5 := mev5 k i
      have hm6 := mev6 k i
      rw [hK] at w1 w2 w3 w4 w5 w6 w7 u2 HT F4 M4 G4 hknext hm4 hm5 hm6 ⊢
      clear hkb
      have Hk := Lib.hid hknext
      have Hm4 := Lib.hid hm4
      have Hm5 := Lib.hid hm5
      have Hm6 := Lib.hid hm6
      have HK := Lib.hid hK
      clear hK hknext hm4 hm5 hm6 hf hm hg
      go_upto_region 12 with fail
      generalize ((((wr.setCell ⟨g, i * 7, none⟩ (.int .i64 K)).setCell ⟨g, i * 7 + 1, none⟩ (.int .i64 (K + 1))).setCell ⟨g, i * 7 + 2, none⟩ (.int .u64 (K + 1 + 1))).setCell ⟨g, i * 7 + 3, none⟩ (.int .i64 (K + 1 + 1 + 1))) = wb at F4 M4 G4 ⊢
      go_wp2_with fail
      refine (HT.out _).mono ?_
      rintro _ w8 ⟨rfl, hb8⟩
      have hgb := F4.out.1
      have G5 : Hid (w.grownBy w8 (some g)) := Lib.hid (Only.trans G4.out ⟨hb8.os, hb8.tape, hb8.output, hb8.size, fun i hi _ => hb8.block i hi⟩)
      have M5 := Lib.hid (M4.out.below hb8 hgb)
      have F5 := Lib.hid (F4.out.below hb8 hgb)
      clear hb8 hgb F4 M4 G4 a0 b0 a1 b1 a2 b2 a3 b3
      obtain ⟨v4, a4, b4⟩ := F5.out.at (j := i * 7 + 4) (by omega)
      obtain ⟨v5, a5, b5⟩ := F5.out.at (j := i * 7 + 5) (by omega)
      obtain ⟨v6, a6, b6⟩ := F5.out.at (j := i * 7 + 6) (by omega)
      have F6 := F5.out.set (i * 7 + 4) (mev k (i * 7 + 4))
      have F7 := F6.set (i * 7 + 5) (mev k (i * 7 + 5))
      have F8 := Lib.hid (F7.set (i * 7 + 6) (mev k (i * 7 + 6)))
      have M8 := Lib.hid (((M5.out.set (F5.out.2 _ (by omega)).1).set (F6.2 _ (by omega)).1).set (F7.2 _ (by omega)).1)
      have G8 : Hid (w.grownBy (((w8.setCell ⟨g, i * 7 + 4, none⟩ (mev k (i * 7 + 4))).setCell ⟨g, i * 7 + 5, none⟩ (mev k (i * 7 + 5))).setCell ⟨g, i * 7 + 6, none⟩ (mev k (i * 7 + 6))) (some g)) := Lib.hid (Only.setCell (Only.setCell (Only.setCell G5.out _ _) _ _) _ _)
      rw [Hm4.out, Hm5.out, Hm6.out] at F8 M8 G8
      clear F6 F7 M5 F5 G5 Hm4 Hm5 Hm6
      generalize markB (K + 1 + 1 + 1 + 1).toNat = mt at F8 M8 G8 ⊢
      go_wp2_with fail
      refine ⟨⟨i + 1, by omega, by rw [Hk.out], by simp, ?_, F8, G8⟩, by simp [intOf]; omega⟩
      rw [show (i + 1) * 7 = i * 7 + 6 + 1 by omega]
      exact M8
    · have hge : (n : Int) ≤ (i : Int) := by omega
      have hend : decide (i < n) = false := decide_eq_false hlt
      obtain rfl : i = n := by omega
      go_wp2_with fail
      go_ret
      exact ⟨rfl, hm.out, hf.out, hg.out⟩
set_option maxHeartbeats 8000000 in
theorem heldEvs_any (g n cap : Nat) (k : Int) (w : World) (hg : g < w.heap.size) (hm : MarkedE w g k (n * 7)) (hn : n ≤ 4194304) (hk : 1 ≤ k ∧ k ≤ 1000000000000000) :
    Calls Try.prog 29 #[.slice (some ⟨g, 0, none⟩) n cap, .int .i64 k] w fun e w' => e = .returned (.int .i64 (k + 7 * (n : Int))) ∧ Below w.heap.size w w' := by
  have HM := Lib.hid hm
  clear hm
  go_enter Try.func29, Try.ntmps29
  go_wp2_with fail
  go_loopw [1, 5] (fun kk ii wr => ∃ i : Nat, i ≤ n ∧ kk = .int .i64 (k + 7 * (i : Int)) ∧ ii = .int .i64 i ∧ Below w.heap.size w wr) (fun _ ii _ => n - (intOf ii).toNat)
  case atStart => exact ⟨0, by omega, by simp, rfl, Below.refl _ _⟩
  case round =>
    obtain ⟨i, hi, rfl, rfl, hbr⟩ := hrel
    by_cases hlt : i < n
    · have hlti : (i : Int) < (n : Int) := by omega
      have hm2 := HM.out.below hbr hg
      have a0 := hm2 (i * 7) (by omega)
      have a1 := hm2 (i * 7 + 1) (by omega)
      have a2 := hm2 (i * 7 + 2) (by omega)
      have a3 := hm2 (i * 7 + 3) (by omega)
      have hm2' := Lib.hid hm2
      rw [mev0] at a0
      rw [mev1] at a1
      rw [mev2] at a2
      rw [mev3] at a3
      have w1 : IntKind.i64.wrap (k + 7 * (i : Int) + 1) = k + 7 * (i : Int) + 1 := IntWalk.i64_in _ (by omega)
      have w2 : IntKind.i64.wrap (k + 7 * (i : Int) + 1 + 1) = k + 7 * (i : Int) + 1 + 1 := IntWalk.i64_in _ (by omega)
      have w3 : IntKind.i64.wrap (k + 7 * (i : Int) + 1 + 1 + 1) = k + 7 * (i : Int) + 1 + 1 + 1 := IntWalk.i64_in _ (by omega)
      have w4 : IntKind.i64.wrap (k + 7 * (i : Int) + 1 + 1 + 1 + 1) = k + 7 * (i : Int) + 1 + 1 + 1 + 1 := IntWalk.i64_in _ (by omega)
      have w5 : IntKind.i64.wrap (k + 7 * (i : Int) + 1 + 1 + 1 + 1 + 1) = k + 7 * (i : Int) + 1 + 1 + 1 + 1 + 1 := IntWalk.i64_in _ (by omega)
      have w6 : IntKind.i64.wrap (k + 7 * (i : Int) + 1 + 1 + 1 + 1 + 1 + 1) = k + 7 * (i : Int) + 1 + 1 + 1 + 1 + 1 + 1 := IntWalk.i64_in _ (by omega)
      have w7 : IntKind.i64.wrap (k + 7 * (i : Int) + 1 + 1 + 1 + 1 + 1 + 1 + 1) = k + 7 * (i : Int) + 1 + 1 + 1 + 1 + 1 + 1 + 1 := IntWalk.i64_in _ (by omega)
      have u2 : IntKind.u64.wrap (k + 7 * (i : Int) + 1 + 1) = k + 7 * (i : Int) + 1 + 1 := IntWalk.u64_in _ (by omega)
      have hkb : 1 ≤ k + 7 * (i : Int) + 1 + 1 + 1 + 1 ∧ k + 7 * (i : Int) + 1 + 1 + 1 + 1 ≤ 9223372036854775807 := by omega
      have HT := Lib.hid (markText_int (k + 7 * (i : Int) + 1 + 1 + 1 + 1) · hkb.1 hkb.2)
      have hknext : k + 7 * ((i + 1 : Nat) : Int) = k + 7 * (i : Int) + 1 + 1 + 1 + 1 + 1 + 1 + 1 := by push_cast; omega
      obtain ⟨K, hK⟩ : ∃ K : Int, k + 7 * (i : Int) = K := ⟨_, rfl⟩
      have hm4 := mev4 k i
      have hm5 := mev5 k i
      have hm6 := mev6 k i
      rw [hK] at w1 w2 w3 w4 w5 w6 w7 u2 HT hknext hm4 hm5 hm6 a0 a1 a2 a3 ⊢
      have Hk := Lib.hid hknext
      have Hm4 := Lib.hid hm4
      have Hm5 := Lib.hid hm5
      have Hm6 := Lib.hid hm6
      have hgr : g < wr.heap.size := Nat.lt_of_lt_of_le hg hbr.size
      clear hK hknext hm4 hm5 hm6 hkb hm2
      have a4 := (hm2'.out) (i * 7 + 4) (by omega)
      rw [Hm4.out] at a4
      generalize markB (K + 1 + 1 + 1 + 1).toNat = mt at HT a4 Hm4 ⊢
      go_wp2_with fail
      go_region_with (go_at_call 50; refine (HT.out _).mono ?_; rintro _ w8 ⟨rfl, hb8⟩; have a4' := (hb8.cell (p := ⟨g, i * 7 + 4, none⟩) hgr).trans a4)
      all_goals
        have hm8 := Lib.hid ((show MarkedE wr.drew g k (n * 7) from hm2'.out).below hb8 hgr)
        have a5 := hm8.out (i * 7 + 5) (by omega)
        have a6 := hm8.out (i * 7 + 6) (by omega)
        rw [Hm5.out] at a5
        rw [Hm6.out] at a6
        have hl8 : Below w.heap.size w w8 := hbr.drew.trans (hb8.mono hbr.size)
        clear hb8 hm8 a0 a1 a2 a3 a4 a4'
        go_wp2_with fail
        go_roundw
        case rel => exact ⟨i + 1, by omega, by rw [Hk.out], by simp, hl8⟩
        case measure => simp [intOf]; omega
    · have hge : (n : Int) ≤ (i : Int) := by omega
      have hend : decide (i < n) = false := decide_eq_false hlt
      obtain rfl : i = n := by omega
      go_wp2_with fail
      go_ret
      exact ⟨rfl, hbr⟩
end Go.Proofs.Yteplmjlllnbiiaa.Num
