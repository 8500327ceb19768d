/-
  For every schema, laws.FnExactSchemaOk returns true: the program's SchemaOk answers as the reference's, and the schema is left as it was. No condition.
-/
import Derived.Test.YthjnpipincpkgaaRows
import Derived.WalkKit
import Derived.ProofKit
import Derived.OpenShut
import Derived.ShutString
import Derived.Below
import Derived.ChangeOld
import Derived.Lib.SmallJoins
import Derived.Test.YthjnpipincpkgaaFrame
import Derived.Test.YthjnpipincpkgaaSchemaImpl
import Derived.Test.YthjnpipincpkgaaTwoSch
import Derived.Test.YthjnpipincpkgaaOpenSch
namespace Go.Proofs.Ythjnpipincpkgaa.fnExactSchemaOk
open Go.ChangeShapes Go.WideShapes Go.ChangeAt Go.RowKit Go.Joins
open Go.ChangeMaps (open_string shut_string)
set_option linter.unusedVariables false

theorem own : ownKnob Try.prog.godebug = none := by kernel_rfl
theorem cells41 : Try.prog.cellsOf 41 = 1 := by kernel_rfl
attribute [local go_sem] Region.wanted yielded
open Num in
set_option maxHeartbeats 4000000 in
theorem walk (w : World) (y0 : Value) (t0 : List Num.RM) (H0 : Num.MsgsAt w (· < w.heap.size) y0 t0) (M0 : Num.inMem t0) :
    Calls Try.prog 4 #[.agg #[y0]] w fun e w' => e = .returned (.bool true) ∧ Below w.heap.size w w' := by
  have h0 := H0
  clear H0
  obtain ⟨a, cap, rfl⟩ := h0.len
  have G0 := Lib.hid h0
  have M0 := Lib.hid M0
  clear h0
  go_enter Try.func4, Try.ntmps4
  go_wp2_with fail
  have hl : Below w.heap.size w (w.alloc (.cells #[.slice a t0.length cap] 41)) := (Below.refl _ _).alloc (Nat.le_refl _) _
  have hA : Holds (w.alloc (.cells #[.slice a t0.length cap] 41)) w.heap.size w.heap.size (.slice a t0.length cap) t0 :=
    ⟨Box.fresh _ _ _, (show RawAt w (· < w.heap.size) _ t0 from ⟨_, rfl, G0.out⟩).below hl fun _ h => h, by simp, hl.size, a, cap, rfl⟩
  generalize w.alloc (.cells #[.slice a t0.length cap] 41) = w1 at hl hA ⊢
  have HA := Lib.hid hA
  clear hA G0
  refine (Sch.szRaw_any _ t0 1048576 _ HA.out.raw M0.out (by omega) (by omega)).mono ?_
  rintro e w2 ⟨x, rfl, hx0, hx1, hx, hb2⟩
  have hl2 := hl.trans (hb2.mono hl.size)
  have HA2 := Lib.hid (HA.out.all hb2)
  have Hx := Lib.hid hx
  clear hl hb2 HA hx
  obtain ⟨c0, _⟩ := HA2.out.one
  by_cases hneg : x < 0
  · go_wp2_with fail
    go_ret
    exact ⟨rfl, hl2⟩
  · have hneg2 : decide (x < 0) = false := decide_eq_false hneg
    have S0 := Lib.hid (Hx.out (by omega))
    clear hneg Hx hx0 hx1
    go_wp2_with fail
    refine (Sch.toRaw_held HA2.out S0.out).mono ?_
    rintro e w3 ⟨p, pc, rfl, hr3, hb3⟩
    have hl3 := hl2.trans (hb3.mono hl2.size)
    have HA3 := Lib.hid (HA2.out.all hb3)
    clear hl2 hb3 HA2 c0
    obtain ⟨c0, _⟩ := HA3.out.one
    have hqA := HA3.out.2.2.1
    go_wp2_with fail
    refine (specSchemaOk_any _ t0 _ hr3 S0.out).mono ?_
    obtain ⟨R, hR⟩ : ∃ R, schemaB t0 = R := ⟨_, rfl⟩
    have HR := Lib.hid hR
    rw [hR]
    clear hR
    rintro e w4 ⟨rfl, hb4⟩
    have hl4 := hl3.trans (hb4.mono hl3.size)
    have HA4 := Lib.hid (HA3.out.all hb4)
    clear hl3 hb4 HA3 hr3 c0 hqA
    have hA5 := HA4.out
    have hl5 := hl4
    obtain ⟨c0, _⟩ := HA4.out.one
    have hqA := HA4.out.2.2.1
    go_wp2_with fail
    clear HA4 hl4 c0 hqA
    refine (Sch.toRaw_held hA5 S0.out).mono ?_
    rintro e w6 ⟨q, qc, rfl, hr6, hb6⟩
    have hA6 := hA5.all hb6
    have hl6 := hl5.trans (hb6.mono hl5.size)
    have hX7 := Holds.fresh 26 hr6
    have hb7 : Below w6.heap.size w6 (w6.alloc (.cells #[.slice q t0.length qc] 26)) := (Below.refl _ _).alloc (Nat.le_refl _) _
    have hA7 := hA6.all hb7
    have hl7 := hl6.trans (hb7.mono hl6.size)
    go_wp2_with fail
    generalize w6.alloc (.cells #[.slice q t0.length qc] 26) = w7 at hX7 hA7 hl7 ⊢
    generalize w6.heap.size = gx at hX7 ⊢
    clear hb7 hA6 hl6 hr6 hb6 hA5 hl5
    refine (implSchemaOk_any _ t0 _ hX7.raw S0.out).mono ?_
    rw [HR.out]
    rintro e w8 ⟨rfl, hb8⟩
    have hRR : (R != R) = false := by simp
    have HA8 := Lib.hid (hA7.all hb8)
    have HX8 := Lib.hid (hX7.all hb8)
    have hl8 := hl7.trans (hb8.mono hl7.size)
    clear hA7 hX7 hb8 hl7
    have cA := HA8.out.one.1
    have cX := HX8.out.one.1
    go_wp2_with fail
    go_region_with (first
      | (go_at_call 19; refine (Sch.toRaw_held HA8.out.drew S0.out).mono ?_; rintro e w12 ⟨ka, kc, rfl, hr12, hb12⟩; have hX12 := HX8.out.drew.all hb12; have hl12 := hl8.drew.trans (hb12.mono hl8.size); obtain ⟨d0, _⟩ := hX12.one)
      | (go_at_call 20; refine (Sch.eqRaw_same _ _ t0 _ hX12.raw hr12 S0.out).mono ?_; rintro e w13 ⟨rfl, hb13⟩; have hl13 := hl12.trans (hb13.mono hl12.size)))
    all_goals
      go_wp2_with fail
      go_ret
      exact ⟨rfl, hl13⟩

set_option maxHeartbeats 1000000 in
set_option maxRecDepth 100000 in
theorem lifted (os : Os) (started : os.Started) (H : Type) (enc : TypeId × Value → H) :
    ReturnsInHanded {} Try.checked os 4 .any (Rows.fnExactSchemaOkSpec.pre6 enc Try.prog Try.f4 Rows.fnExactSchemaOkRow.domain false) (Rows.fnExactSchemaOkSpec.post enc Try.prog Try.f4 false true false false) := by
  refine returnsInHanded_of_change (C := Try.checked) own started (by kernel_rfl) Try.func4
    (ChangeSpec.witness6 (enc := enc) (C := Try.checked) false ⟨#[], #[.agg #[.slice none 0 0]], []⟩ 8 (by kernel_rfl) (by kernel_rfl) (by kernel_rfl) (by kernel_rfl)) ?_
  intro W base args ds gs before hval0 hW hcnd _
  have hval : ∀ (j : Nat) t v, Try.f4.params[j]? = some t → args[j]? = some v → Value.okWide Try.prog W .any base t v := hval0
  have hW' := hW
  obtain ⟨p, q, hA0, hV, rfl, hfz, hnd⟩ := hW
  have hA : DataW.TrodAll enc Try.prog W 0 (fun _ => true) true Try.f4.params.toList args.toList ds p := hA0
  have hAk := hA
  rw [Try.params4] at hA hval
  obtain ⟨v0, vs0, d0, ds0, p0, q0, hargs, rfl, rfl, h0, r0⟩ := trodAll_cons hA
  obtain ⟨rfl, rfl, rfl⟩ := trodAll_nil r0
  obtain rfl : args = #[v0] := by cases args; simp_all
  obtain ⟨rfl, rfl⟩ := trodVars_none hV
  obtain ⟨y0, t0, rfl, H0, M0⟩ := Num.Sch.open_raw (hval 0 41 v0 rfl rfl) h0
  clear hA0 hval0
  refine (walk W y0 t0 H0 M0).mono fun e W' ⟨he, hg⟩ => ?_
  subst he
  exact ⟨_, rfl, _, _, _, [], _, [], hW', (trodAll_cons_mk (shut_bool Try.underlying4 _) trodAll_mk0), Num.args_again (by rw [Try.params4]; decide) hAk hg, rfl, hg.frame _, fun h => by cases h⟩

theorem over : Rows.fnExactSchemaOkRow.holds Try.pinned (OpenSpec.ofChange Rows.fnExactSchemaOkSpec) :=
  OpenClaim.holds_of_wide 4 Try.f4 rfl rfl rfl rfl rfl rfl rfl ⟨rfl, rfl, rfl, rfl, rfl⟩ rfl rfl rfl rfl rfl (by kernel_rfl) Try.func4 (by kernel_rfl)
    (of_decide_eq_true (by kernel_rfl)) (by unfold Func.isWrapper; first | (rw [if_pos (by decide +kernel)]; kernel_rfl) | (rw [if_neg (by decide +kernel)]; exact ⟨rfl, rfl⟩))
    (fun os started H enc _ => lifted os started H enc)

theorem proved : Rows.FnExactSchemaOkSaid :=
  over
end Go.Proofs.Ythjnpipincpkgaa.fnExactSchemaOk
