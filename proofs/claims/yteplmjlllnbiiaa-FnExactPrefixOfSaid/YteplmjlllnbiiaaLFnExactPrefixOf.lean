/-
  For every two lists of events, laws.FnExactPrefixOf returns true: the program's PrefixOf answers as the reference's, and the lists are left as they were. No condition.
-/
import Derived.Test.YteplmjlllnbiiaaRows
import Derived.WalkKit
import Derived.ProofKit
import Derived.OpenShut
import Derived.ShutString
import Derived.Below
import Derived.ChangeOld
import Derived.Lib.SmallJoins
import Derived.Test.YteplmjlllnbiiaaFrame
import Derived.Test.YteplmjlllnbiiaaElevI
import Derived.Test.YteplmjlllnbiiaaOpenEv
namespace Go.Proofs.Yteplmjlllnbiiaa.fnExactPrefixOf
open Go.ChangeShapes Go.WideShapes Go.ChangeAt Go.RowKit Go.Joins
open Go.ChangeMaps (open_string shut_string)
set_option linter.unusedVariables false

theorem own : ownKnob Try.prog.godebug = none := by kernel_rfl
open Num in
set_option maxHeartbeats 2000000 in
theorem walk (w : World) (a0 : Option Addr) (c0 : Nat) (l0 : List Num.Ev) (H0 : Num.EvsAt w (· < w.heap.size) (.slice a0 l0.length c0) l0) (W0 : Num.EvsWf l0) (M0 : l0.length ≤ 9223372036854775807) (a1 : Option Addr) (c1 : Nat) (l1 : List Num.Ev) (H1 : Num.EvsAt w (· < w.heap.size) (.slice a1 l1.length c1) l1) (W1 : Num.EvsWf l1) (M1 : l1.length ≤ 9223372036854775807) :
    Calls Try.prog 8 #[.slice a0 l0.length c0, .slice a1 l1.length c1] w fun e w' => e = .returned (.bool true) ∧ Below w.heap.size w w' := by
  have HA := Lib.hid H0
  have HW := Lib.hid W0
  have HB := Lib.hid H1
  have HV := Lib.hid W1
  clear H0 W0 H1 W1
  go_enter Try.func8, Try.ntmps8
  go_wp2_with fail
  refine (szEventS_any _ l0 1048576 _ HA.out M0 HW.out (by omega) (by omega)).mono ?_
  rintro e w1 ⟨x, rfl, hx0, hx1, hx, hb1⟩
  have Hx := Lib.hid hx
  clear hx
  by_cases hneg : x < 0
  · go_wp2_with fail
    go_ret
    exact ⟨rfl, hb1⟩
  · have hneg2 : decide (x < 0) = false := decide_eq_false hneg
    have Hsm := Lib.hid (Hx.out (by omega))
    have hsm := Hsm.out.1
    have HB1 := Lib.hid (HB.out.grow hb1 (Nat.le_refl _))
    have hx00 : 0 ≤ x := by omega
    clear hneg hx0 Hx HW M0
    go_wp2_with fail
    refine (szEventS_any _ l1 x _ HB1.out M1 HV.out hx00 hx1).mono ?_
    rintro e w2 ⟨y, rfl, hy0, hy1, hy, hb2⟩
    have Hy := Lib.hid hy
    have hl2 := hb1.trans (hb2.mono hb1.size)
    clear hy hb1 hb2 HB1
    by_cases hneg : y < 0
    · go_wp2_with fail
      go_ret
      exact ⟨rfl, hl2⟩
    · have hneg3 : decide (y < 0) = false := decide_eq_false hneg
      have Hsm1 := Lib.hid (Hy.out (by omega))
      have hsm1 := Hsm1.out.1
      have HA2 := Lib.hid (HA.out.grow hl2 (Nat.le_refl _))
      have HB2 := Lib.hid (HB.out.grow hl2 (Nat.le_refl _))
      clear hneg hy0 hy1 Hy HV M1 hx1 hx00
      obtain ⟨R, hR⟩ : ∃ R : Bool, preB l0 l1 = R := ⟨_, rfl⟩
      have HR := Lib.hid hR
      clear hR
      go_wp2_with fail
      refine (toEventS_any _ l0 _ HA2.out hsm).mono ?_
      rintro e w4 ⟨p4, k4, rfl, hr4, hb4⟩
      have hl4 := hl2.trans (hb4.mono hl2.size)
      have HB4 := Lib.hid (HB2.out.grow hb4 (Nat.le_refl _))
      have Hr4 := Lib.hid hr4
      clear hr4 hb4 hl2 HA2 HB2
      go_wp2_with fail
      refine (toEventS_any _ l1 _ HB4.out hsm1).mono ?_
      rintro e w5 ⟨p5, k5, rfl, hr5, hb5⟩
      have hl5 := hl4.trans (hb5.mono hl4.size)
      have Hr45 := Lib.hid (Hr4.out.grow hb5 (Nat.le_refl _))
      have Hr5 := Lib.hid hr5
      clear hr5 hb5 hl4 Hr4 HB4
      go_wp2_with fail
      refine (specPrefixOf_any _ _ l0 l1 _ Hr45.out Hr5.out Hsm.out Hsm1.out).mono ?_
      rw [HR.out]
      rintro e w6 ⟨rfl, hb6⟩
      have hl6 := hl5.trans (hb6.mono hl5.size)
      clear hl5 hb6 Hr45 Hr5
      have HA6 := Lib.hid (HA.out.grow hl6 (Nat.le_refl _))
      go_wp2_with fail
      refine (toEventS_any _ l0 _ HA6.out hsm).mono ?_
      rintro e w7 ⟨p7, k7, rfl, hr7, hb7⟩
      have hl7 := hl6.trans (hb7.mono hl6.size)
      have HB7 := Lib.hid (HB.out.grow hl7 (Nat.le_refl _))
      have Hr7 := Lib.hid hr7
      clear hl6 hb7 hr7 HA6
      go_wp2_with fail
      refine (toEventS_any _ l1 _ HB7.out hsm1).mono ?_
      rintro e w8 ⟨p8, k8, rfl, hr8, hb8⟩
      have hl8 := hl7.trans (hb8.mono hl7.size)
      have Hr78 := Lib.hid (Hr7.out.grow hb8 (Nat.le_refl _))
      have Hr8 := Lib.hid hr8
      clear hl7 hb8 hr8 Hr7 HB7
      go_wp2_with fail
      refine (implPrefixOf_any _ _ l0 l1 _ Hr78.out Hr8.out Hsm.out Hsm1.out).mono ?_
      rw [HR.out]
      rintro e w9 ⟨rfl, hb9⟩
      have hl9 := hl8.trans (hb9.mono hl8.size)
      have HX9 := Lib.hid (Hr78.out.grow hb9 (Nat.le_refl _))
      have HY9 := Lib.hid (Hr8.out.grow hb9 (Nat.le_refl _))
      have HA9 := Lib.hid (HA.out.grow hl9 (Nat.le_refl _))
      clear hl8 hb9 Hr78 Hr8
      go_wp2_with fail
      refine (toEventS_any _ l0 _ HA9.out hsm).mono ?_
      rintro e w12 ⟨p12, k12, rfl, hr12, hb12⟩
      have hl12 := hl9.trans (hb12.mono hl9.size)
      have HX12 := Lib.hid (HX9.out.grow hb12 (Nat.le_refl _))
      have HY12 := Lib.hid (HY9.out.grow hb12 (Nat.le_refl _))
      have Hr12 := Lib.hid hr12
      clear HX9 HY9 HA9 hl9 hb12 hr12
      go_wp2_with fail
      refine (eqEventS_same _ _ l0 _ HX12.out Hr12.out (by omega)).mono ?_
      rintro e w13 ⟨rfl, hb13⟩
      have hl13 := hl12.trans (hb13.mono hl12.size)
      have HY13 := Lib.hid (HY12.out.grow hb13 (Nat.le_refl _))
      have HB13 := Lib.hid (HB.out.grow hl13 (Nat.le_refl _))
      clear hl12 hb13 HX12 HY12 Hr12
      go_wp2_with fail
      refine (toEventS_any _ l1 _ HB13.out hsm1).mono ?_
      rintro e w14 ⟨p14, k14, rfl, hr14, hb14⟩
      have hl14 := hl13.trans (hb14.mono hl13.size)
      have HY14 := Lib.hid (HY13.out.grow hb14 (Nat.le_refl _))
      have Hr14 := Lib.hid hr14
      clear hl13 hb14 hr14 HY13 HB13
      go_wp2_with fail
      refine (eqEventS_same _ _ l1 _ HY14.out Hr14.out (by omega)).mono ?_
      rintro e w15 ⟨rfl, hb15⟩
      have hl15 := hl14.trans (hb15.mono hl14.size)
      go_wp2_with fail
      go_ret
      exact ⟨rfl, hl15⟩

set_option maxHeartbeats 1000000 in
set_option maxRecDepth 100000 in
theorem lifted (os : Os) (started : os.Started) (H : Type) (enc : TypeId × Value → H) :
    ReturnsInHanded {} Try.checked os 8 .any (Rows.fnExactPrefixOfSpec.pre6 enc Try.prog Try.f8 Rows.fnExactPrefixOfRow.domain false) (Rows.fnExactPrefixOfSpec.post enc Try.prog Try.f8 false true false false) := by
  refine returnsInHanded_of_change (C := Try.checked) own started (by kernel_rfl) Try.func8
    (ChangeSpec.witness6 (enc := enc) (C := Try.checked) false ⟨#[], #[.slice none 0 0, .slice none 0 0], []⟩ 8 (by kernel_rfl) (by kernel_rfl) (by kernel_rfl) (by kernel_rfl)) ?_
  intro W base args ds gs before hval0 hW hcnd _
  have hval : ∀ (j : Nat) t v, Try.f8.params[j]? = some t → args[j]? = some v → Value.okWide Try.prog W .any base t v := hval0
  have hW' := hW
  obtain ⟨p, q, hA0, hV, rfl, hfz, hnd⟩ := hW
  have hA : DataW.TrodAll enc Try.prog W 0 (fun _ => true) true Try.f8.params.toList args.toList ds p := hA0
  have hAk := hA
  rw [Try.params8] at hA hval
  obtain ⟨v0, vs0, d0, ds0, p0, q0, hargs, rfl, rfl, h0, r0⟩ := trodAll_cons hA
  obtain ⟨v1, vs1, d1, ds1, p1, q1, rfl, rfl, rfl, h1, r1⟩ := trodAll_cons r0
  obtain ⟨rfl, rfl, rfl⟩ := trodAll_nil r1
  obtain rfl : args = #[v0, v1] := by cases args; simp_all
  obtain ⟨rfl, rfl⟩ := trodVars_none hV
  obtain ⟨a0, c0, l0, rfl, H0, W0, M0⟩ := Num.open_events (hval 0 37 v0 rfl rfl) h0
  obtain ⟨a1, c1, l1, rfl, H1, W1, M1⟩ := Num.open_events (hval 1 37 v1 rfl rfl) h1
  clear hA0 hval0
  refine (walk W a0 c0 l0 H0 W0 M0 a1 c1 l1 H1 W1 M1).mono fun e W' ⟨he, hg⟩ => ?_
  subst he
  exact ⟨_, rfl, _, _, _, [], _, [], hW', (trodAll_cons_mk (shut_bool Try.underlying4 _) trodAll_mk0), Num.args_again (by rw [Try.params8]; decide) hAk hg, rfl, hg.frame _, fun h => by cases h⟩

theorem over : Rows.fnExactPrefixOfRow.holds Try.pinned (OpenSpec.ofChange Rows.fnExactPrefixOfSpec) :=
  OpenClaim.holds_of_wide 8 Try.f8 rfl rfl rfl rfl rfl rfl rfl ⟨rfl, rfl, rfl, rfl, rfl⟩ rfl rfl rfl rfl rfl (by kernel_rfl) Try.func8 (by kernel_rfl)
    (of_decide_eq_true (by kernel_rfl)) (by unfold Func.isWrapper; first | (rw [if_pos (by decide +kernel)]; kernel_rfl) | (rw [if_neg (by decide +kernel)]; exact ⟨rfl, rfl⟩))
    (fun os started H enc _ => lifted os started H enc)

theorem proved : Rows.FnExactPrefixOfSaid :=
  over
end Go.Proofs.Yteplmjlllnbiiaa.fnExactPrefixOf
