/-
  For every list of events, laws.FnExactLongestPart returns true: the program's LongestPart answers as the reference's, and the list is left as it was. No condition.
-/
import Derived.Test.YteplmjlllnbiiaaRows
import Derived.WalkKit
import Derived.ProofKit
import Derived.OpenShut
import Derived.ShutString
import Derived.Below
import Derived.ChangeOld
import Derived.Lib.SmallJoins
import Derived.Test.YteplmjlllnbiiaaFrame
import Derived.Test.YteplmjlllnbiiaaElevI
import Derived.Test.YteplmjlllnbiiaaOpenEv
namespace Go.Proofs.Yteplmjlllnbiiaa.fnExactLongestPart
open Go.ChangeShapes Go.WideShapes Go.ChangeAt Go.RowKit Go.Joins
open Go.ChangeMaps (open_string shut_string)
set_option linter.unusedVariables false

theorem own : ownKnob Try.prog.godebug = none := by kernel_rfl
open Num in
set_option maxHeartbeats 1000000 in
theorem walk (w : World) (a0 : Option Addr) (c0 : Nat) (l0 : List Num.Ev) (H0 : Num.EvsAt w (· < w.heap.size) (.slice a0 l0.length c0) l0) (W0 : Num.EvsWf l0) (M0 : l0.length ≤ 9223372036854775807) :
    Calls Try.prog 10 #[.slice a0 l0.length c0] w fun e w' => e = .returned (.bool true) ∧ Below w.heap.size w w' := by
  have HA := Lib.hid H0
  have HW := Lib.hid W0
  clear H0 W0
  go_enter Try.func10, Try.ntmps10
  go_wp2_with fail
  refine (szEventS_any _ l0 1048576 _ HA.out M0 HW.out (by omega) (by omega)).mono ?_
  rintro e w1 ⟨x, rfl, hx0, hx1, hx, hb1⟩
  have Hx := Lib.hid hx
  clear hx
  by_cases hneg : x < 0
  · go_wp2_with fail
    go_ret
    exact ⟨rfl, hb1⟩
  · have hneg2 : decide (x < 0) = false := decide_eq_false hneg
    have Hsm := Lib.hid (Hx.out (by omega))
    have hsm := Hsm.out.1
    have HA1 := Lib.hid (HA.out.grow hb1 (Nat.le_refl _))
    clear hneg hx0 hx1 Hx HW M0
    go_wp2_with fail
    refine (toEventS_own _ l0 _ HA1.out hsm).mono ?_
    rintro e w2 ⟨rfl, hr2, hf2, hb2⟩
    have hl2 := hb1.trans (hb2.mono hb1.size)
    have Hr2 : Hid (EvsAt w2 (· < w2.heap.size) _ l0) := Lib.hid (hr2.wide fun b hb' => by subst hb'; exact hf2.1)
    generalize w1.heap.size = g2 at Hr2 ⊢
    clear hb1 hb2 hr2 hf2 HA1
    go_wp2_with fail
    refine (specLongest_any _ l0 _ Hr2.out (by omega)).mono ?_
    rintro e w3 ⟨rfl, hb3⟩
    have hl3 := hl2.trans (hb3.mono hl2.size)
    have HA3 := Lib.hid (HA.out.grow hl3 (Nat.le_refl _))
    clear hl2 hb3 Hr2
    obtain ⟨R, hR⟩ : ∃ R : Nat, longestPart l0 = R := ⟨_, rfl⟩
    have HR := Lib.hid hR
    rw [hR]
    clear hR
    go_wp2_with fail
    refine (toEventS_any _ l0 _ HA3.out hsm).mono ?_
    rintro e w4 ⟨p4, k4, rfl, hr4, hb4⟩
    have hl4 := hl3.trans (hb4.mono hl3.size)
    have Hr4 := Lib.hid hr4
    clear hl3 hb4 hr4 HA3
    go_wp2_with fail
    refine (implLongest_any _ l0 _ Hr4.out (by omega)).mono ?_
    rw [HR.out]
    rintro e w5 ⟨rfl, hb5⟩
    have hl5 := hl4.trans (hb5.mono hl4.size)
    have HA5 := Lib.hid (HA.out.grow hl5 (Nat.le_refl _))
    have Hr5 := Lib.hid (Hr4.out.grow hb5 (Nat.le_refl _))
    clear hl4 hb5 Hr4
    go_wp2_with fail
    refine (toEventS_any _ l0 _ HA5.out hsm).mono ?_
    rintro e w6 ⟨p6, k6, rfl, hr6, hb6⟩
    have hl6 := hl5.trans (hb6.mono hl5.size)
    have Hr6 := Lib.hid (Hr5.out.grow hb6 (Nat.le_refl _))
    have Hr7 := Lib.hid hr6
    clear hr6 hb6 hl5
    go_wp2_with fail
    refine (eqEventS_same _ _ l0 _ Hr6.out Hr7.out (by omega)).mono ?_
    rintro e w7 ⟨rfl, hb7⟩
    have hl7 := hl6.trans (hb7.mono hl6.size)
    go_wp2_with fail
    go_ret
    exact ⟨rfl, hl7⟩

set_option maxHeartbeats 1000000 in
set_option maxRecDepth 100000 in
theorem lifted (os : Os) (started : os.Started) (H : Type) (enc : TypeId × Value → H) :
    ReturnsInHanded {} Try.checked os 10 .any (Rows.fnExactLongestPartSpec.pre6 enc Try.prog Try.f10 Rows.fnExactLongestPartRow.domain false) (Rows.fnExactLongestPartSpec.post enc Try.prog Try.f10 false true false false) := by
  refine returnsInHanded_of_change (C := Try.checked) own started (by kernel_rfl) Try.func10
    (ChangeSpec.witness6 (enc := enc) (C := Try.checked) false ⟨#[], #[.slice none 0 0], []⟩ 8 (by kernel_rfl) (by kernel_rfl) (by kernel_rfl) (by kernel_rfl)) ?_
  intro W base args ds gs before hval0 hW hcnd _
  have hval : ∀ (j : Nat) t v, Try.f10.params[j]? = some t → args[j]? = some v → Value.okWide Try.prog W .any base t v := hval0
  have hW' := hW
  obtain ⟨p, q, hA0, hV, rfl, hfz, hnd⟩ := hW
  have hA : DataW.TrodAll enc Try.prog W 0 (fun _ => true) true Try.f10.params.toList args.toList ds p := hA0
  have hAk := hA
  rw [Try.params10] at hA hval
  obtain ⟨v0, vs0, d0, ds0, p0, q0, hargs, rfl, rfl, h0, r0⟩ := trodAll_cons hA
  obtain ⟨rfl, rfl, rfl⟩ := trodAll_nil r0
  obtain rfl : args = #[v0] := by cases args; simp_all
  obtain ⟨rfl, rfl⟩ := trodVars_none hV
  obtain ⟨a0, c0, l0, rfl, H0, W0, M0⟩ := Num.open_events (hval 0 37 v0 rfl rfl) h0
  clear hA0 hval0
  refine (walk W a0 c0 l0 H0 W0 M0).mono fun e W' ⟨he, hg⟩ => ?_
  subst he
  exact ⟨_, rfl, _, _, _, [], _, [], hW', (trodAll_cons_mk (shut_bool Try.underlying4 _) trodAll_mk0), Num.args_again (by rw [Try.params10]; decide) hAk hg, rfl, hg.frame _, fun h => by cases h⟩

theorem over : Rows.fnExactLongestPartRow.holds Try.pinned (OpenSpec.ofChange Rows.fnExactLongestPartSpec) :=
  OpenClaim.holds_of_wide 10 Try.f10 rfl rfl rfl rfl rfl rfl rfl ⟨rfl, rfl, rfl, rfl, rfl⟩ rfl rfl rfl rfl rfl (by kernel_rfl) Try.func10 (by kernel_rfl)
    (of_decide_eq_true (by kernel_rfl)) (by unfold Func.isWrapper; first | (rw [if_pos (by decide +kernel)]; kernel_rfl) | (rw [if_neg (by decide +kernel)]; exact ⟨rfl, rfl⟩))
    (fun os started H enc _ => lifted os started H enc)

theorem proved : Rows.FnExactLongestPartSaid :=
  over
end Go.Proofs.Yteplmjlllnbiiaa.fnExactLongestPart
