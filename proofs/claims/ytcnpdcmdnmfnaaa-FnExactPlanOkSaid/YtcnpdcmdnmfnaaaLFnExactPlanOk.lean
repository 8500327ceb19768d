/-
  For every plan, laws.FnExactPlanOk returns true: the program's PlanOk answers as the reference's, and the plan is left as it was. No condition.
-/
import Derived.Test.YtcnpdcmdnmfnaaaRows
import Derived.WalkKit
import Derived.ProofKit
import Derived.OpenShut
import Derived.ShutString
import Derived.Below
import Derived.ChangeOld
import Derived.Lib.SmallJoins
import Derived.Test.YtcnpdcmdnmfnaaaFrame
import Derived.Test.YtcnpdcmdnmfnaaaGramI
import Derived.Test.YtcnpdcmdnmfnaaaPlanW
import Derived.Test.YtcnpdcmdnmfnaaaOpenPlan
namespace Go.Proofs.Ytcnpdcmdnmfnaaa.fnExactPlanOk
open Go.ChangeShapes Go.WideShapes Go.ChangeAt Go.RowKit Go.Joins
open Go.ChangeMaps (open_string shut_string)
set_option linter.unusedVariables false

theorem own : ownKnob Try.prog.godebug = none := by kernel_rfl
theorem cells42 : Try.prog.cellsOf 42 = 4 := by kernel_rfl
attribute [local go_sem] Region.wanted yielded
open Num in
/-- A variable that holds a plan whose schema's rows lie before C. -/
def PHolds (w : World) (g C : Nat) (u : Value) (r : List RM) (A B D : Int) : Prop := Box w g [u, .int .i64 A, .int .i64 B, .int .i64 D] ∧ MsgsAt w (· < w.heap.size) u r
open Num in
theorem PHolds.all {w w' : World} {g C : Nat} {u : Value} {r : List RM} {A B D : Int} (h : PHolds w g C u r A B D) (hb : Below w.heap.size w w') : PHolds w' g C u r A B D := ⟨h.1.below hb h.1.lt, h.2.below hb⟩
open Num in
theorem PHolds.drew {w : World} {g C : Nat} {u : Value} {r : List RM} {A B D : Int} (h : PHolds w g C u r A B D) : PHolds w.drew g C u r A B D := h
open Num in
theorem plan_as {u : Value} {r : List RM} {A B C : Int} {R : Bool} (hR : planB r A B C = R) {w : World} (h : MsgsAt w (· < w.heap.size) u r) (hr : Small r) :
    Calls Try.prog 19 #[.agg #[u, .int .i64 A, .int .i64 B, .int .i64 C]] w fun e w' => e = .returned (.bool R) ∧ Below w.heap.size w w' := hR ▸ implPlanOk_any u r A B C w h hr
open Num in
set_option maxHeartbeats 4000000 in
theorem walk (w : World) (y0 : Value) (t0 : List Num.RM) (A0 B0 C0 : Int) (H0 : Num.MsgsAt w (· < w.heap.size) y0 t0) (M0 : Num.inMem t0) :
    Calls Try.prog 5 #[Num.planV y0 A0 B0 C0] w fun e w' => e = .returned (.bool true) ∧ Below w.heap.size w w' := by
  unfold planV
  have h0 := H0
  clear H0
  obtain ⟨a, cap, rfl⟩ := h0.len
  have G0 := Lib.hid h0
  have M0 := Lib.hid M0
  obtain ⟨R, hR⟩ : ∃ R, planB t0 A0 B0 C0 = R := ⟨_, rfl⟩
  have HR := Lib.hid hR
  clear h0 hR
  have hl : Below w.heap.size w (w.alloc (.cells #[.slice a t0.length cap, .int .i64 A0, .int .i64 B0, .int .i64 C0] 42)) := (Below.refl _ _).alloc (Nat.le_refl _) _
  have hA : PHolds (w.alloc (.cells #[.slice a t0.length cap, .int .i64 A0, .int .i64 B0, .int .i64 C0] 42)) w.heap.size w.heap.size (.slice a t0.length cap) t0 A0 B0 C0 :=
    ⟨Box.fresh w #[.slice a t0.length cap, .int .i64 A0, .int .i64 B0, .int .i64 C0] _, G0.out.below hl⟩
  go_enter Try.func5, Try.ntmps5
  go_wp2_with fail
  generalize w.alloc (.cells #[.slice a t0.length cap, .int .i64 A0, .int .i64 B0, .int .i64 C0] 42) = w1 at hl hA ⊢
  have HA := Lib.hid hA
  clear hA G0
  refine (szPlan_any _ t0 A0 B0 C0 1048576 _ HA.out.2 M0.out (by omega) (by omega)).mono ?_
  rintro e w2 ⟨x, rfl, hx0, hx1, hx, hb2⟩
  have hl2 := hl.trans (hb2.mono hl.size)
  have HA2 := Lib.hid (HA.out.all hb2)
  have Hx := Lib.hid hx
  clear hl hb2 HA hx
  obtain ⟨c0, c1, c2, c3, _⟩ := HA2.out.1.fourA
  by_cases hneg : x < 0
  · go_wp2_with fail
    go_ret
    exact ⟨rfl, hl2⟩
  · have hneg2 : decide (x < 0) = false := decide_eq_false hneg
    have S0 := Lib.hid (Hx.out (by omega))
    clear hneg Hx hx0 hx1
    go_wp2_with fail
    refine (toPlan_any _ t0 A0 B0 C0 _ HA2.out.2 S0.out).mono ?_
    rintro e w3 ⟨p, pc, rfl, hr3, hb3⟩
    have hl3 := hl2.trans (hb3.mono hl2.size)
    have HA3 := Lib.hid (HA2.out.all hb3)
    clear hl2 hb3 HA2 c0 c1 c2 c3
    obtain ⟨c0, c1, c2, c3, _⟩ := HA3.out.1.fourA
    unfold planV
    go_wp2_with fail
    refine (specPlanOk_any _ t0 A0 B0 C0 _ hr3 S0.out).mono ?_
    rw [HR.out]
    rintro e w4 ⟨rfl, hb4⟩
    have hl4 := hl3.trans (hb4.mono hl3.size)
    have HA4 := Lib.hid (HA3.out.all hb4)
    clear hl3 hb4 HA3 hr3 c0 c1 c2 c3
    obtain ⟨c0, c1, c2, c3, _⟩ := HA4.out.1.fourA
    go_wp2_with fail
    clear c0 c1 c2 c3
    refine (toPlan_any _ t0 A0 B0 C0 _ HA4.out.2 S0.out).mono ?_
    rintro e w6 ⟨q, qc, rfl, hr6, hb6⟩
    have hl6 := hl4.trans (hb6.mono hl4.size)
    have hA6 := HA4.out.all hb6
    unfold planV
    have hb7 : Below w6.heap.size w6 (w6.alloc (.cells #[.slice q t0.length qc, .int .i64 A0, .int .i64 B0, .int .i64 C0] 49)) := (Below.refl _ _).alloc (Nat.le_refl _) _
    have hX7 : PHolds (w6.alloc (.cells #[.slice q t0.length qc, .int .i64 A0, .int .i64 B0, .int .i64 C0] 49)) w6.heap.size w6.heap.size (.slice q t0.length qc) t0 A0 B0 C0 :=
      ⟨Box.fresh w6 #[.slice q t0.length qc, .int .i64 A0, .int .i64 B0, .int .i64 C0] _, hr6.below hb7⟩
    have hA7 := hA6.all hb7
    have hl7 := hl6.trans (hb7.mono hl6.size)
    go_wp2_with fail
    generalize w6.alloc (.cells #[.slice q t0.length qc, .int .i64 A0, .int .i64 B0, .int .i64 C0] 49) = w7 at hX7 hA7 hl7 ⊢
    generalize w6.heap.size = gx at hX7 ⊢
    clear hb7 hA6 hl6 hr6 hb6 HA4 hl4
    refine (plan_as HR.out hX7.2 S0.out).mono ?_
    rintro e w8 ⟨rfl, hb8⟩
    have hRR : (R != R) = false := by simp
    have HA8 := Lib.hid (hA7.all hb8)
    have HX8 := Lib.hid (hX7.all hb8)
    have hl8 := hl7.trans (hb8.mono hl7.size)
    clear hA7 hX7 hb8 hl7
    obtain ⟨c0, c1, c2, c3, _⟩ := HA8.out.1.fourA
    obtain ⟨d0, d1, d2, d3, _⟩ := HX8.out.1.fourA
    go_wp2_with fail
    go_region_with (first
      | (go_at_call 18; refine (toPlan_any _ t0 A0 B0 C0 _ HA8.out.drew.2 S0.out).mono ?_; rintro e w12 ⟨ka, kc, rfl, hr12, hb12⟩; have hX12 := HX8.out.drew.all hb12; have hl12 := hl8.drew.trans (hb12.mono hl8.size); obtain ⟨e0, e1, e2, e3, _⟩ := hX12.1.fourA)
      | (go_at_call 20; refine (eqPlan_same _ _ t0 A0 B0 C0 _ hX12.2 hr12 S0.out).mono ?_; rintro e w13 ⟨rfl, hb13⟩; have hl13 := hl12.trans (hb13.mono hl12.size)))
    all_goals
      go_wp2_with fail
      go_ret
      exact ⟨rfl, hl13⟩

set_option maxHeartbeats 1000000 in
set_option maxRecDepth 100000 in
theorem lifted (os : Os) (started : os.Started) (H : Type) (enc : TypeId × Value → H) :
    ReturnsInHanded {} Try.checked os 5 .any (Rows.fnExactPlanOkSpec.pre6 enc Try.prog Try.f5 Rows.fnExactPlanOkRow.domain false) (Rows.fnExactPlanOkSpec.post enc Try.prog Try.f5 false true false false) := by
  refine returnsInHanded_of_change (C := Try.checked) own started (by kernel_rfl) Try.func5
    (ChangeSpec.witness6 (enc := enc) (C := Try.checked) false ⟨#[], #[.agg #[.slice none 0 0, .int .i64 0, .int .i64 0, .int .i64 0]], []⟩ 8 (by kernel_rfl) (by kernel_rfl) (by kernel_rfl) (by kernel_rfl)) ?_
  intro W base args ds gs before hval0 hW hcnd _
  have hval : ∀ (j : Nat) t v, Try.f5.params[j]? = some t → args[j]? = some v → Value.okWide Try.prog W .any base t v := hval0
  have hW' := hW
  obtain ⟨p, q, hA0, hV, rfl, hfz, hnd⟩ := hW
  have hA : DataW.TrodAll enc Try.prog W 0 (fun _ => true) true Try.f5.params.toList args.toList ds p := hA0
  have hAk := hA
  rw [Try.params5] at hA hval
  obtain ⟨v0, vs0, d0, ds0, p0, q0, hargs, rfl, rfl, h0, r0⟩ := trodAll_cons hA
  obtain ⟨rfl, rfl, rfl⟩ := trodAll_nil r0
  obtain rfl : args = #[v0] := by cases args; simp_all
  obtain ⟨rfl, rfl⟩ := trodVars_none hV
  obtain ⟨y0, t0, A0, B0, C0, rfl, H0, M0⟩ := Num.open_plan (hval 0 42 v0 rfl rfl) h0
  clear hA0 hval0
  refine (walk W y0 t0 A0 B0 C0 H0 M0).mono fun e W' ⟨he, hg⟩ => ?_
  subst he
  exact ⟨_, rfl, _, _, _, [], _, [], hW', (trodAll_cons_mk (shut_bool Try.underlying4 _) trodAll_mk0), Num.args_again (by rw [Try.params5]; decide) hAk hg, rfl, hg.frame _, fun h => by cases h⟩

theorem over : Rows.fnExactPlanOkRow.holds Try.pinned (OpenSpec.ofChange Rows.fnExactPlanOkSpec) :=
  OpenClaim.holds_of_wide 5 Try.f5 rfl rfl rfl rfl rfl rfl rfl ⟨rfl, rfl, rfl, rfl, rfl⟩ rfl rfl rfl rfl rfl (by kernel_rfl) Try.func5 (by kernel_rfl)
    (of_decide_eq_true (by kernel_rfl)) (by unfold Func.isWrapper; first | (rw [if_pos (by decide +kernel)]; kernel_rfl) | (rw [if_neg (by decide +kernel)]; exact ⟨rfl, rfl⟩))
    (fun os started H enc _ => lifted os started H enc)

theorem proved : Rows.FnExactPlanOkSaid :=
  over
end Go.Proofs.Ytcnpdcmdnmfnaaa.fnExactPlanOk
